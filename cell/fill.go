package cell

import (
	"slices"

	"weir/api"
	"weir/fault"
	"weir/num"
	"weir/reckon"
)

// Fill tells the empty windows between the first and the last one of each group, too.
func Fill(q api.Query, l []api.Row) ([]api.Row, error) {
	if err := fit(q, l); err != nil {
		return nil, err
	}
	var filled []api.Row
	if q.Fill == api.NoFill {
		for _, row := range l {
			filled = append(filled, another(row.Cell, row.Items))
		}
		return filled, nil
	}
	groups := grouped(l)
	if !few(groups, q.Every) {
		return nil, fault.New(api.ErrLong)
	}
	for _, rows := range groups {
		filled = append(filled, closed(q, rows)...)
	}
	slices.SortFunc(filled, func(a, b api.Row) int { return Compare(a.Cell, b.Cell) })
	return filled, nil
}

// another is a row in memory of its own. What tells nothing says nothing else.
func another(c api.Cell, told []api.Told) api.Row {
	items := slices.Clone(told)
	for i, one := range items {
		if !one.Some {
			items[i] = api.Told{}
		}
	}
	return api.Row{Cell: api.Cell{Start: c.Start, Group: slices.Clone(c.Group)}, Items: items}
}

// grouped are the rows of each group, in order of time, as they stood.
func grouped(l []api.Row) [][]api.Row {
	byGroup := func(a, b api.Row) int { return compareFrom(byTexts, a.Cell, b.Cell) }
	rest := slices.Clone(l)
	slices.SortStableFunc(rest, byGroup)
	var groups [][]api.Row
	for len(rest) > 0 {
		end := 1
		for end < len(rest) && byGroup(rest[0], rest[end]) == 0 {
			end++
		}
		groups = append(groups, rest[:end])
		rest = rest[end:]
	}
	return groups
}

// few tells whether the windows of all groups, each from its first row's to its last row's, are no more than may be.
func few(groups [][]api.Row, every int64) bool {
	var windows int64
	for _, rows := range groups {
		first, last := rows[0].Cell.Start, rows[len(rows)-1].Cell.Start
		// Between two times there may be more than int64 has room for.
		steps, err := num.Ratio(num.Minus(num.Plus(api.Sum{}, last), first), every)
		if err != nil || steps >= api.MaxRows-windows {
			return false
		}
		windows += steps + 1
	}
	return true
}

// closed are the rows of one group, and between them a row for each window that has none, all filled.
func closed(q api.Query, rows []api.Row) []api.Row {
	filling := make([]api.Told, len(q.Items))
	if q.Fill == api.FillWith {
		for i := range filling {
			filling[i] = reckon.Int(q.FillN)
		}
	}
	empty := make([]api.Told, len(q.Items))
	c := rows[0].Cell
	var all []api.Row
	for ; len(rows) > 0; c.Start += q.Every {
		told := empty
		if rows[0].Cell.Start == c.Start {
			told, rows = rows[0].Items, rows[1:]
		}
		row := another(c, told)
		for i, one := range row.Items {
			if !one.Some {
				row.Items[i] = filling[i]
			} else if q.Fill == api.FillLast {
				filling[i] = one
			}
		}
		all = append(all, row)
	}
	return all
}
