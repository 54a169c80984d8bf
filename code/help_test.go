package code

import (
	"encoding/binary"
	"fmt"
	"math"
	"math/rand"
	"reflect"
	"strings"
	"testing"

	"weir/api"
	"weir/expect"
	"weir/sample"
)

// fails holds an error without an index against a number and a place.
func fails(t *testing.T, what any, err error, e api.Errno, pos int) {
	t.Helper()
	if wrong := expect.Wrong(err, e, pos, expect.None); wrong != "" {
		t.Errorf("%.300v: %v: %s", what, err, wrong)
	}
}

// draw draws from a source with a fixed seed, so that each run draws the same.
func draw() sample.Draw { return rand.New(rand.NewSource(1970)).Intn }

// words are the chapter's, and operands how many of these each instruction uses.
const words = "pushtrue, pushfalse, pushtag, pushin, pushsame, pushtime, not, and, or, jumpfalse, jumptrue, pop, accept, loadacc, loadint, ratio, neg, add, sub, mul, div, mod, emit, done"

func operands() map[string]int {
	uses := map[string]int{}
	for _, name := range strings.Split(words, ", ") {
		uses[name] = 0
	}
	for _, name := range []string{"pushtag", "pushin", "pushsame", "pushtime", "ratio"} {
		uses[name] = 2
	}
	for _, name := range []string{"jumpfalse", "jumptrue", "loadacc", "loadint", "emit"} {
		uses[name] = 1
	}
	return uses
}

// called is an instruction's name, for each code that is one.
func called() map[api.Code]string {
	names := map[api.Code]string{}
	for i, name := range strings.Split(words, ", ") {
		names[api.Code(i+1)] = name
	}
	return names
}

// text draws a text of any bytes.
func text(d sample.Draw) string {
	b := make([]byte, d(4))
	for i := range b {
		b[i] = byte(d(256))
	}
	return sample.One(d, "", "v", "host", " ", `"`, `\`, `\x22`, "a b", "\n", "\x00\x7f\x80\xff", "é", "~", strings.Repeat("t", 127+d(3)), string(b))
}

func number(d sample.Draw) int64 {
	return sample.One(d, d.Number(), int64(d(300)-150), math.MinInt64, 1<<d(63), -1<<d(63))
}

// some draws up to most things.
func some[T any](d sample.Draw, most int, one func(sample.Draw) T) (l []T) {
	for range d(most + 1) {
		l = append(l, one(d))
	}
	return l
}

func anyTexts(d sample.Draw) []string { return some(d, 3, text) }

func anyAcc(d sample.Draw) api.Acc {
	return api.Acc{Func: api.Func(sample.One(d, d(10), d(256))), Field: text(d)}
}

func anyIns(d sample.Draw) api.Ins {
	i := api.Ins{Code: api.Code(1 + d(24))}
	uses := operands()[called()[i.Code]]
	if uses > 0 {
		i.A = int(number(d))
	}
	if uses > 1 {
		i.B = int(number(d))
	}
	return i
}

// program draws a fit program.
func program(d sample.Draw) api.Program {
	return api.Program{
		From: text(d), Into: text(d), Every: number(d), Offset: number(d), Groups: anyTexts(d), Accs: some(d, 3, anyAcc),
		Aliases: anyTexts(d), Names: anyTexts(d), Texts: anyTexts(d), Lists: some(d, 3, anyTexts),
		Times: some(d, 3, number), Ints: some(d, 3, number), Filter: some(d, 5, anyIns), Output: some(d, 5, anyIns),
	}
}

// alike tells whether programs are the same; lists that are empty and that are none are one.
func alike(a, b api.Program) bool {
	return reflect.DeepEqual(sample.CopyProgram(a), sample.CopyProgram(b))
}

// written is a program's bytes as the chapter tells them, by the library.
func written(p api.Program) []byte {
	var b []byte
	count := func(n int) { b = binary.AppendUvarint(b, uint64(n)) }
	text := func(s string) {
		count(len(s))
		b = append(b, s...)
	}
	texts := func(l []string) {
		count(len(l))
		for _, s := range l {
			text(s)
		}
	}
	numbers := func(l []int64) {
		count(len(l))
		for _, n := range l {
			b = binary.AppendVarint(b, n)
		}
	}
	code := func(l []api.Ins) {
		count(len(l))
		for _, i := range l {
			b = append(b, byte(i.Code))
			for _, n := range []int{i.A, i.B}[:operands()[called()[i.Code]]] {
				b = binary.AppendVarint(b, int64(n))
			}
		}
	}
	text(p.From)
	text(p.Into)
	b = binary.AppendVarint(b, p.Every)
	b = binary.AppendVarint(b, p.Offset)
	texts(p.Groups)
	count(len(p.Accs))
	for _, a := range p.Accs {
		b = append(b, byte(a.Func))
		text(a.Field)
	}
	texts(p.Aliases)
	texts(p.Names)
	texts(p.Texts)
	count(len(p.Lists))
	for _, l := range p.Lists {
		texts(l)
	}
	numbers(p.Times)
	numbers(p.Ints)
	code(p.Filter)
	code(p.Output)
	return b
}

// quoted is a text in a listing, as the chapter tells it.
func quoted(s string) string {
	var b strings.Builder
	for _, c := range []byte(s) {
		if strings.IndexByte(` !#$%&'()*+,-./0123456789:;<=>?@ABCDEFGHIJKLMNOPQRSTUVWXYZ[]^_`+"`abcdefghijklmnopqrstuvwxyz{|}~", c) >= 0 {
			b.WriteByte(c)
		} else {
			fmt.Fprintf(&b, `\x%02x`, c)
		}
	}
	return `"` + b.String() + `"`
}

// listed is a program's listing as the chapter tells it.
func listed(p api.Program) string {
	var b strings.Builder
	texts := func(word string, l []string) {
		for _, s := range l {
			fmt.Fprintln(&b, word, quoted(s))
		}
	}
	code := func(word string, l []api.Ins) {
		fmt.Fprintln(&b, word)
		for _, i := range l {
			name := called()[i.Code]
			switch operands()[name] {
			case 0:
				fmt.Fprintln(&b, name)
			case 1:
				fmt.Fprintln(&b, name, i.A)
			case 2:
				fmt.Fprintln(&b, name, i.A, i.B)
			}
		}
	}
	texts("from", []string{p.From})
	texts("into", []string{p.Into})
	fmt.Fprintln(&b, "window", p.Every, p.Offset)
	texts("group", p.Groups)
	for _, a := range p.Accs {
		fmt.Fprintln(&b, "acc", uint8(a.Func), quoted(a.Field))
	}
	texts("alias", p.Aliases)
	texts("name", p.Names)
	texts("text", p.Texts)
	for _, l := range p.Lists {
		b.WriteString("list")
		for _, s := range l {
			b.WriteString(" " + quoted(s))
		}
		b.WriteString("\n")
	}
	for _, n := range p.Times {
		fmt.Fprintln(&b, "time", n)
	}
	for _, n := range p.Ints {
		fmt.Fprintln(&b, "int", n)
	}
	code("filter", p.Filter)
	code("output", p.Output)
	return b.String()
}
