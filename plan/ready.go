package plan

import (
	"slices"

	"strata/api"
)

// ready is a statement over a table that was checked, with its expressions made into functions.
type ready struct {
	api.Stmt
	table  api.Table
	places []int    // of the columns that INSERT and UPDATE give values
	rows   [][]node // these values
	items  []node   // of SELECT; nil for COUNT(*)
	where  node     // nil: there is none
	sorts  []int    // the places of the columns of ORDER BY
}

// checked makes a statement ready, if it and the table are what they should be (P16.8).
func checked(s api.Stmt, t api.Table) (*ready, error) {
	if !isStatement(s) || s.Kind < api.StInsert || s.Kind > api.StDelete {
		return nil, fault{api.ErrTree}
	}
	if !isTable(t) {
		return nil, fault{api.ErrDefine}
	}
	return readied(s, t)
}

// readied does so with what is known to be a statement over rows, and a table.
func readied(s api.Stmt, t api.Table) (*ready, error) {
	p := &ready{Stmt: s, table: t}
	checks := [...]func(*ready) error{
		api.StInsert: (*ready).checkInsert,
		api.StSelect: (*ready).checkSelect,
		api.StUpdate: (*ready).checkUpdate,
		api.StDelete: (*ready).checkWhere,
	}
	return p, checks[s.Kind](p)
}

// checkName adds the place of a column that may be named once.
func (p *ready) checkName(i int, name string) error {
	place := placeOf(name, p.table.Cols)
	p.places = append(p.places, place)
	return faultIf(place < 0 || repeats(p.Names, i), api.ErrColumn)
}

// checkValueOf adds an expression for a column.
func (p *ready) checkValueOf(i int, e api.Expr, cols []api.ColDef) error {
	tree, err := typed(e, cols, p.table.Cols[p.places[i]].Type)
	row := &p.rows[len(p.rows)-1]
	*row = append(*row, tree)
	return err
}

func (p *ready) checkInsert() error {
	if err := eachOf(p.Names, p.checkName); err != nil {
		return err
	}
	if len(p.Names) == 0 {
		for place := range p.table.Cols {
			p.places = append(p.places, place)
		}
	}
	return eachOf(p.Rows, p.checkValues)
}

func (p *ready) checkValues(_ int, row []api.Expr) error {
	if len(row) != len(p.places) {
		return fault{api.ErrArity}
	}
	p.rows = append(p.rows, nil)
	return eachOf(row, func(i int, e api.Expr) error { return p.checkValueOf(i, e, nil) })
}

func (p *ready) checkUpdate() error {
	p.rows = make([][]node, 1)
	if err := eachOf(p.Names, p.checkSet); err != nil {
		return err
	}
	return p.checkWhere()
}

func (p *ready) checkSet(i int, name string) error {
	if err := p.checkName(i, name); err != nil {
		return err
	}
	if slices.Contains(p.table.Key, p.places[i]) {
		return fault{api.ErrPrimary}
	}
	return p.checkValueOf(i, p.Rows[0][i], p.table.Cols)
}

func (p *ready) checkSelect() error {
	if err := faultIf(p.aggregates() && !p.allAggregates(), api.ErrArity); err != nil {
		return err
	}
	if err := eachOf(p.Items, p.checkItem); err != nil {
		return err
	}
	if err := p.checkWhere(); err != nil {
		return err
	}
	return eachOf(p.Order, p.checkSort)
}

func isAggregate(i api.Item) bool { return i.Agg != api.AgNone }

// aggregates tells whether the answer is one row about all rows.
func (p *ready) aggregates() bool { return slices.ContainsFunc(p.Items, isAggregate) }

func (p *ready) allAggregates() bool {
	return !slices.ContainsFunc(p.Items, func(i api.Item) bool { return !isAggregate(i) })
}

func (p *ready) checkItem(_ int, item api.Item) error {
	if len(item.Of) == 0 {
		p.items = append(p.items, nil)
		return nil
	}
	tree, err := grownOf(item.Of, p.table.Cols)
	if err != nil {
		return err
	}
	p.items = append(p.items, tree)
	return faultIf(item.Agg == api.AgSum && !fits(tree.kind(), api.KInt), api.ErrType)
}

func (p *ready) checkWhere() (err error) {
	p.where, err = condition(p.Where, p.table.Cols)
	return err
}

func (p *ready) checkSort(_ int, s api.Sort) error {
	place := placeOf(s.Col, p.table.Cols)
	p.sorts = append(p.sorts, place)
	return faultIf(place < 0, api.ErrColumn)
}

// meets tells whether the condition is TRUE at a row.
func (p *ready) meets(row []api.Value) bool {
	return p.where == nil || p.where.at(row) == truth(true)
}

// met tells the rows at which the condition is TRUE, in their order.
func (p *ready) met(rows [][]api.Value) [][]api.Value {
	var list [][]api.Value
	for _, row := range rows {
		if p.meets(row) {
			list = append(list, row)
		}
	}
	return list
}
