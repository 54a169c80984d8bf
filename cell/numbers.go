package cell

import (
	"weir/api"
	"weir/num"
	"weir/reckon"
)

// numbers is what is to be known of some numbers, each at its time, to tell what the functions say of them.
type numbers struct {
	many        int64
	sum         api.Sum
	least, most int64
	early, late moment
}

// moment is a number at its time.
type moment struct{ time, n int64 }

// take lets one more number play its part. Those of one time come by rising series.
func (l *numbers) take(t, n int64) {
	one := moment{t, n}
	if l.many == 0 {
		l.least, l.most, l.early, l.late = n, n, one, one
	}
	l.many++
	l.sum = num.Plus(l.sum, n)
	l.least, l.most = min(l.least, n), max(l.most, n)
	if t < l.early.time {
		l.early = one
	}
	if t >= l.late.time {
		l.late = one
	}
}

// functions are what each function reckons of the numbers, by its number.
func (l *numbers) functions() [api.Spread + 1]func() api.Told {
	return [...]func() api.Told{
		api.Count: l.count, api.TotalOf: l.total, api.Mean: l.mean, api.Min: l.min,
		api.Max: l.max, api.First: l.first, api.Last: l.last, api.Spread: l.spread,
	}
}

func (l *numbers) count() api.Told { return reckon.Int(l.many) }

func (l *numbers) total() api.Told { return reckon.Of(num.Small(l.sum)) }

func (l *numbers) mean() api.Told { return reckon.Of(num.Ratio(l.sum, l.many)) }

func (l *numbers) min() api.Told { return reckon.Int(l.least) }

func (l *numbers) max() api.Told { return reckon.Int(l.most) }

func (l *numbers) first() api.Told { return reckon.Int(l.early.n) }

func (l *numbers) last() api.Told { return reckon.Int(l.late.n) }

func (l *numbers) spread() api.Told { return reckon.Of(num.Sub(l.most, l.least)) }
