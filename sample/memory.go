package sample

import (
	"slices"

	"weir/api"
)

// Room is a list in memory of its own, with one thing behind its end.
func Room[T any](l []T, spare T) []T { return append(slices.Clone(l), spare)[:len(l)] }

// Spare is a list with what Room has laid behind its end.
func Spare[T any](l []T) []T { return l[:len(l)+1] }

// Fill changes all of a list, and what stands behind it.
func Fill[T any](l []T, v T) {
	for i := range l {
		l[i] = v
	}
	_ = append(l, v)
}

// What stands behind the ends of lists, and in them when they are spoilt: it is right nowhere.
const spoilt = "\x00spoilt"

// CopyPlan is a plan in memory of its own, with something behind the end of each list.
func CopyPlan(p api.Plan) api.Plan {
	p.Groups, p.Where, p.Accs, p.Outs = Room(p.Groups, spoilt), Room(p.Where, api.Node{S: spoilt}), Room(p.Accs, api.Acc{Field: spoilt}), Room(p.Outs, api.Out{Alias: spoilt})
	for i := range p.Outs {
		p.Outs[i].Tree = Room(p.Outs[i].Tree, api.Node{S: spoilt})
	}
	return p
}

// SparePlan is all that CopyPlan has made.
func SparePlan(p api.Plan) []any {
	all := []any{p.From, p.Into, p.Every, p.Offset, Spare(p.Groups), Spare(p.Where), Spare(p.Accs), Spare(p.Outs)}
	for _, out := range p.Outs {
		all = append(all, Spare(out.Tree))
	}
	return all
}

// SpoilPlan changes all that a plan's lists have, and what stands behind them.
func SpoilPlan(p api.Plan) {
	for _, out := range p.Outs {
		Fill(out.Tree, api.Node{S: spoilt})
	}
	Fill(p.Groups, spoilt)
	Fill(p.Where, api.Node{S: spoilt})
	Fill(p.Accs, api.Acc{Field: spoilt})
	Fill(p.Outs, api.Out{Alias: spoilt})
}

// CopyProgram is a program in memory of its own, with something behind the end of each list.
func CopyProgram(p api.Program) api.Program {
	p.Groups, p.Aliases, p.Names, p.Texts = Room(p.Groups, spoilt), Room(p.Aliases, spoilt), Room(p.Names, spoilt), Room(p.Texts, spoilt)
	p.Accs, p.Times, p.Ints, p.Lists = Room(p.Accs, api.Acc{Field: spoilt}), Room(p.Times, 99), Room(p.Ints, 99), Room(p.Lists, []string{spoilt})
	p.Filter, p.Output = Room(p.Filter, api.Ins{Code: 99}), Room(p.Output, api.Ins{Code: 99})
	for i := range p.Lists {
		p.Lists[i] = Room(p.Lists[i], spoilt)
	}
	return p
}

// SpareProgram is all that CopyProgram has made.
func SpareProgram(p api.Program) []any {
	all := []any{
		p.From, p.Into, p.Every, p.Offset, Spare(p.Groups), Spare(p.Accs), Spare(p.Aliases), Spare(p.Names), Spare(p.Texts),
		Spare(p.Lists), Spare(p.Times), Spare(p.Ints), Spare(p.Filter), Spare(p.Output),
	}
	for _, l := range p.Lists {
		all = append(all, Spare(l))
	}
	return all
}

// SpoilProgram changes all that a program's lists have, and what stands behind them.
func SpoilProgram(p api.Program) {
	for _, l := range append([][]string{p.Groups, p.Aliases, p.Names, p.Texts}, p.Lists...) {
		Fill(l, spoilt)
	}
	Fill(p.Accs, api.Acc{Field: spoilt})
	Fill(p.Lists, []string{spoilt})
	Fill(p.Times, 99)
	Fill(p.Ints, 99)
	Fill(p.Filter, api.Ins{Code: 99})
	Fill(p.Output, api.Ins{Code: 99})
}
