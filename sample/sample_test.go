package sample

import (
	"math/rand"
	"slices"
	"testing"

	"weir/api"
	"weir/ast"
	"weir/fault"
	"weir/verify"
)

// What is drawn is right, and of all kinds; a spoilt tree is mostly not.
func TestRight(t *testing.T) {
	d := Draw(rand.New(rand.NewSource(1970)).Intn)
	ops, fills := map[api.Op]int{}, map[api.FillKind]int{}
	spoilt := 0
	for range 3000 {
		sum, cond, q := d.Sum(1+d(6)), d.Cond(1+d(6)), d.Query()
		if err := ast.Sum(sum); err != nil {
			t.Fatalf("%v: %v", sum, err)
		}
		if err := ast.Cond(cond); err != nil {
			t.Fatalf("%v: %v", cond, err)
		}
		if err := ast.Right(q); err != nil && fault.Code(err) != api.ErrLong {
			t.Fatalf("%v: %v", q, err)
		}
		if ast.Sum(d.Spoil(sum)) != nil {
			spoilt++
		}
		fills[q.Fill]++
		for _, n := range append(sum, cond...) {
			ops[n.Op]++
		}
	}
	if len(ops) != 24 || len(fills) != 3 || spoilt < 1000 {
		t.Errorf("%d kinds of nodes, %d fillings, %d spoilt trees", len(ops), len(fills), spoilt)
	}
}

// Programs that are drawn pass, and a broken one mostly does not, however often it was broken.
func TestPrograms(t *testing.T) {
	d := Draw(rand.New(rand.NewSource(1970)).Intn)
	codes, broken := map[api.Code]int{}, 0
	for i := range 3000 {
		p := d.Program(1 + i%20)
		if err := verify.Program(p); err != nil {
			t.Fatalf("%v: %v", p, err)
		}
		for _, ins := range append(p.Filter, p.Output...) {
			codes[ins.Code]++
		}
		for range 1 + d(20) {
			p = d.Broken(p)
		}
		if verify.Program(p) != nil {
			broken++
		}
	}
	if len(codes) != 24 || broken < 2000 {
		t.Errorf("%d kinds of instructions, %d broken programs", len(codes), broken)
	}
}

// Queries that are drawn over a table ask for its columns alone, and each item has a call and a name of its own.
func TestAsking(t *testing.T) {
	d := Draw(rand.New(rand.NewSource(1970)).Intn)
	for _, table := range []api.Table{{Measure: "cpu", Tags: []string{"host", "zone"}, Fields: []string{"v", "w"}}, {Measure: "m", Fields: []string{"x"}}} {
		asked := map[string]int{}
		for range 1000 {
			q := d.Asking(table, "t")
			if err := ast.Right(q); err != nil && fault.Code(err) != api.ErrLong {
				t.Fatalf("%v: %v", q, err)
			}
			names := map[string]bool{}
			nodes := slices.Clone(q.Where)
			for _, item := range q.Items {
				nodes = append(nodes, item.Tree...)
				if names[item.Alias.Text] || len(ast.Calls(item.Tree)) == 0 {
					t.Fatalf("%v", q)
				}
				names[item.Alias.Text] = true
			}
			for _, n := range nodes {
				if n.Op == api.OpCall || n.Op == api.OpTag {
					asked[n.S]++
				}
			}
			for _, group := range q.Groups {
				asked[group.Text]++
			}
		}
		if columns := append(table.Tags, table.Fields...); len(asked) != len(columns) || slices.ContainsFunc(columns, func(s string) bool { return asked[s] == 0 }) {
			t.Errorf("%v", asked)
		}
	}
}

func TestShuffled(t *testing.T) {
	d := Draw(rand.New(rand.NewSource(1970)).Intn)
	l, orders := []int{1, 2, 3}, map[[3]int]int{}
	for range 600 {
		other := Shuffled(d, l)
		orders[[3]int(other)]++
		if slices.Sort(other); !slices.Equal(other, []int{1, 2, 3}) {
			t.Fatalf("%v", other)
		}
	}
	if len(orders) != 6 || !slices.Equal(l, []int{1, 2, 3}) {
		t.Errorf("%v, %v", orders, l)
	}
}
