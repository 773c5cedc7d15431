package plan

import (
	"slices"

	"strata/api"
	"strata/bits"
	"strata/tongue"
)

// aggregateWords are the aggregates' names, by their numbers.
var aggregateWords = [...]string{api.AgCount: "COUNT", api.AgSum: "SUM", api.AgMin: "MIN", api.AgMax: "MAX"}

// answer tells what a SELECT answers over rows of its table (P16.9).
func (p *ready) answer(rows [][]api.Value) (api.Result, error) {
	return caught(func() api.Result {
		list := p.met(rows)
		if p.aggregates() {
			list = limited([][]api.Value{p.summary(list)}, p.Limit)
		} else {
			list = p.listed(list)
		}
		return api.Result{Names: p.headings(), Rows: list, Count: len(list)}
	})
}

// headings are the names of what is answered.
func (p *ready) headings() []string {
	if len(p.Items) == 0 {
		return namesOf(p.table.Cols)
	}
	names := make([]string, len(p.Items))
	for i, item := range p.Items {
		names[i] = heading(item)
	}
	return names
}

func heading(item api.Item) string {
	text, _ := tongue.PrintExpr(item.Of)
	switch {
	case item.As != "":
		return item.As
	case !isAggregate(item):
		return text
	case len(item.Of) == 0:
		text = "*"
	}
	return aggregateWords[item.Agg] + "(" + text + ")"
}

// limited leaves the first ones of a list; -1 is no limit.
func limited(rows [][]api.Value, limit int64) [][]api.Value {
	if limit >= 0 && limit < int64(len(rows)) {
		return rows[:limit]
	}
	return rows
}

// listed sorts rows in a list that is its own, and tells the items of those that remain.
func (p *ready) listed(rows [][]api.Value) [][]api.Value {
	slices.SortStableFunc(rows, p.order)
	var list [][]api.Value
	for _, row := range limited(rows, p.Limit) {
		if len(p.items) == 0 {
			list = append(list, slices.Clone(row))
		} else {
			list = append(list, all(p.items, row))
		}
	}
	return list
}

// order tells which of two rows comes first.
func (p *ready) order(a, b []api.Value) int {
	for i, place := range p.sorts {
		order := bits.CompareValues(a[place], b[place])
		if p.Order[i].Desc {
			order = -order
		}
		if order != 0 {
			return order
		}
	}
	return 0
}

// summary tells the aggregates, one by one over all rows.
func (p *ready) summary(rows [][]api.Value) []api.Value {
	row := make([]api.Value, len(p.items))
	for i, item := range p.Items {
		row[i] = aggregate(item.Agg, p.items[i], rows)
	}
	return row
}

func aggregate(agg int, of node, rows [][]api.Value) api.Value {
	var sum api.Value
	if agg == api.AgCount {
		sum = intValue(0)
	}
	for _, row := range rows {
		if of == nil {
			sum = add(sum, intValue(1))
		} else if v := of.at(row); !isNull(v) {
			sum = gathered(agg, sum, v)
		}
	}
	return sum
}

// gathered takes in a value that is not null.
func gathered(agg int, sum, v api.Value) api.Value {
	switch {
	case agg == api.AgCount:
		return add(sum, intValue(1))
	case isNull(sum):
		return v
	case agg == api.AgSum:
		return add(sum, v)
	case agg == api.AgMin:
		return better(sum, v, -1)
	}
	return better(sum, v, 1)
}
