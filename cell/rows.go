package cell

import (
	"strconv"
	"strings"

	"weir/api"
	"weir/ast"
	"weir/batch"
	"weir/fault"
	"weir/key"
	"weir/num"
)

// Writes are rows as samples of a query's target.
func Writes(q api.Query, l []api.Row) ([]api.Write, error) {
	if err := fit(q, l); err != nil {
		return nil, err
	}
	if q.Into.Text == "" {
		return nil, fault.New(api.ErrPlain)
	}
	var writes []api.Write
	names := groupNames(q)
	for _, row := range l {
		tags := key.Join(names, row.Cell.Group)
		for i, one := range row.Items {
			if !one.Some {
				continue
			}
			if q.Items[i].Alias.Text == "" {
				return nil, fault.New(api.ErrPlain)
			}
			writes = append(writes, api.Write{
				Series: api.Series{Measure: q.Into.Text, Tags: tags, Field: q.Items[i].Alias.Text},
				Sample: api.Sample{Time: row.Cell.Start, Value: one.Value},
			})
		}
	}
	return batch.Order(writes), nil
}

// Print is rows as lines.
func Print(q api.Query, l []api.Row) (string, error) {
	if err := fit(q, l); err != nil {
		return "", err
	}
	var lines strings.Builder
	for _, row := range l {
		var groups, items []string
		for i, text := range row.Cell.Group {
			if text != "" {
				groups = append(groups, key.Escape(q.Groups[i].Text)+"="+key.Escape(text))
			}
		}
		for i, one := range row.Items {
			if one.Some {
				items = append(items, key.Escape(q.Items[i].Alias.Text)+"="+written(one.Value))
			}
		}
		lines.WriteString(strconv.FormatInt(row.Cell.Start, 10) + " " + listed(groups) + " " + listed(items) + "\n")
	}
	return lines.String(), nil
}

// listed are some texts with commas between them; - stands for none.
func listed(l []string) string {
	if len(l) == 0 {
		return "-"
	}
	return strings.Join(l, ",")
}

func written(v api.Value) string {
	switch v.Kind {
	case api.Over:
		return "over"
	case api.Void:
		return "void"
	}
	return strconv.FormatInt(v.N, 10)
}

// fit tells what is wrong with a query, or with rows for it.
func fit(q api.Query, l []api.Row) error {
	if err := ast.Right(q); err != nil {
		return err
	}
	for i, row := range l {
		if i > 0 && Compare(l[i-1].Cell, row.Cell) >= 0 || !right(q, row) {
			return fault.New(api.ErrRange)
		}
	}
	return nil
}

// right tells whether a row by itself is one for a right query.
func right(q api.Query, row api.Row) bool {
	start, err := num.Window(row.Cell.Start, q.Every, q.Offset)
	if err != nil || start != row.Cell.Start || len(row.Cell.Group) != len(q.Groups) || len(row.Items) != len(q.Items) {
		return false
	}
	for _, one := range row.Items {
		if one.Some && !value(one.Value) {
			return false
		}
	}
	return true
}

// value tells whether there is such a value.
func value(v api.Value) bool {
	switch v.Kind {
	case api.Int:
		return true
	case api.Over, api.Void:
		return v.N == 0
	}
	return false
}
