// Package reckon is operators over what is told: numbers, marks, or nothing. What a query means and the machine that runs its code reckon by it.
package reckon

import (
	"weir/api"
	"weir/fault"
	"weir/num"
)

// Int tells a number.
func Int(n int64) api.Told { return api.Told{Some: true, Value: api.Value{Kind: api.Int, N: n}} }

// Of tells what num has reckoned, and a mark where it could not.
func Of(n int64, err error) api.Told {
	switch fault.Code(err) {
	case 0:
		return Int(n)
	case api.ErrZero:
		return mark(api.Void)
	}
	return mark(api.Over)
}

// Neg is the opposite.
func Neg(a api.Told) api.Told { return Sub(Int(0), a) }

// Add is the sum.
func Add(a, b api.Told) api.Told { return of(num.Add, a, b) }

// Sub is the difference.
func Sub(a, b api.Told) api.Told { return of(num.Sub, a, b) }

// Mul is the product.
func Mul(a, b api.Told) api.Told { return of(num.Mul, a, b) }

// Div is the quotient, rounded down.
func Div(a, b api.Told) api.Told { return of(num.Div, a, b) }

// Mod is what is left then.
func Mod(a, b api.Told) api.Told { return of(num.Mod, a, b) }

// of is what an operator tells of its two operands.
func of(operator func(a, b int64) (int64, error), a, b api.Told) api.Told {
	switch {
	case !a.Some || !b.Some:
		return api.Told{}
	case a.Value.Kind == api.Over || b.Value.Kind == api.Over:
		return mark(api.Over)
	case a.Value.Kind == api.Void || b.Value.Kind == api.Void:
		return mark(api.Void)
	}
	return Of(operator(a.Value.N, b.Value.N))
}

func mark(kind api.ValueKind) api.Told { return api.Told{Some: true, Value: api.Value{Kind: kind}} }
