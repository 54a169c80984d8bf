package shell

import (
	"math"
	"slices"
	"strconv"
	"strings"

	"weir/api"
	"weir/engine"
	"weir/fault"
	"weir/key"
)

// nothing is told where there is a list without anything.
const nothing = "none"

// told is an error as a line; of none it is ok.
func told(err error) string { return fault.Print(err) + lineFeed }

// counted is a number as a line, or an error.
func counted(n int, err error) string { return listed(strconv.Itoa(n)+lineFeed, err) }

// listed is some lines, or an error.
func listed(lines string, err error) string {
	switch {
	case err != nil:
		return told(err)
	case lines == "":
		return nothing + lineFeed
	}
	return lines
}

// lined are texts, each as a line.
func lined(l []string) string {
	var out strings.Builder
	for _, text := range l {
		out.WriteString(text + lineFeed)
	}
	return out.String()
}

func valued(v api.Value) string {
	switch v.Kind {
	case api.Over:
		return "over"
	case api.Void:
		return "void"
	}
	return strconv.FormatInt(v.N, 10)
}

// either is one of two texts.
func either(so bool, yes, no string) string {
	if so {
		return yes
	}
	return no
}

// alike tells whether two engines have the same tables and targets, with the same samples and horizons.
func alike(a, b *engine.Engine) bool {
	tables := a.Tables()
	if !slices.EqualFunc(tables, b.Tables(), sameTable) {
		return false
	}
	return !slices.ContainsFunc(tables, func(t api.Table) bool {
		return horizon(a, t) != horizon(b, t) || !slices.EqualFunc(all(a, t), all(b, t), sameWrite)
	})
}

func sameTable(a, b api.Table) bool {
	return a.Measure == b.Measure && slices.Equal(a.Tags, b.Tags) && slices.Equal(a.Fields, b.Fields)
}

func sameWrite(a, b api.Write) bool {
	return key.Compare(a.Series, b.Series) == 0 && a.Sample == b.Sample
}

// horizon is that of a table that is there.
func horizon(e *engine.Engine, t api.Table) int64 {
	at, _ := e.Horizon(t.Measure)
	return at
}

// all are the samples of a table that is there.
func all(e *engine.Engine, t api.Table) []api.Write {
	l, _ := e.Read(t.Measure, "", math.MinInt64, math.MaxInt64)
	return l
}
