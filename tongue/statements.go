package tongue

import "strata/api"

// statementRule reads what stands behind a statement's first token.
type statementRule func(*reader, *api.Stmt)

// statementRules gives them by the statements' kinds; those without one end with their first token.
func statementRules() []statementRule {
	return []statementRule{
		api.StCreate:   (*reader).create,
		api.StDrop:     (*reader).drop,
		api.StInsert:   (*reader).insert,
		api.StSelect:   (*reader).query,
		api.StUpdate:   (*reader).update,
		api.StDelete:   (*reader).remove,
		api.StBegin:    (*reader).begin,
		api.StRollback: nil,
	}
}

func (r *reader) statement() api.Stmt {
	s := api.Stmt{Kind: r.statementKind()}
	if rule := statementRules()[s.Kind]; rule != nil {
		rule(r, &s)
	}
	return s
}

func (r *reader) statementKind() int {
	for kind, word := range statementWords {
		if r.takes(word) {
			return kind
		}
	}
	panic(r.wrong())
}

func (r *reader) create(s *api.Stmt) {
	r.take("TABLE")
	s.Table = r.name()
	r.take("(")
	s.Cols = r.columns()
	r.take("PRIMARY", "KEY")
	s.Key = bracketed(r, (*reader).name)
	r.take(")")
}

// columns reads them with the comma behind the last one. Behind a comma the primary key may stand: so that there is a column too many shows only with its name.
func (r *reader) columns() []api.ColDef {
	list := []api.ColDef{r.column()}
	for {
		comma := r.next().At
		r.take(",")
		if r.is("PRIMARY") {
			return list
		}
		if len(list) == api.MaxList && r.next().Kind == api.TokName {
			panic(fault{api.ErrMany, comma})
		}
		list = append(list, r.column())
	}
}

func (r *reader) column() api.ColDef {
	c := api.ColDef{Name: r.name(), Type: r.columnType()}
	if r.takes("NOT") {
		r.take("NULL")
		c.NotNull = true
	}
	return c
}

func (r *reader) columnType() api.Kind {
	for kind, word := range typeWords {
		if r.takes(word) {
			return api.Kind(kind)
		}
	}
	panic(r.wrong())
}

func (r *reader) drop(s *api.Stmt) {
	r.take("TABLE")
	s.Table = r.name()
}

func (r *reader) insert(s *api.Stmt) {
	r.take("INTO")
	s.Table = r.name()
	if r.is("(") {
		s.Names = bracketed(r, (*reader).name)
	}
	r.take("VALUES")
	s.Rows = listOf(r, api.MaxRows, (*reader).row)
}

func (r *reader) row() []api.Expr { return bracketed(r, (*reader).expr) }

func (r *reader) query(s *api.Stmt) {
	if !r.takes("*") {
		s.Items = listOf(r, api.MaxList, (*reader).item)
	}
	r.take("FROM")
	s.Table = r.name()
	s.Where = r.where()
	if r.takes("ORDER") {
		r.take("BY")
		s.Order = listOf(r, api.MaxList, (*reader).sort)
	}
	s.Limit = -1
	if r.takes("LIMIT") {
		s.Limit = r.integer()
	}
}

func (r *reader) item() api.Item {
	i := api.Item{Agg: r.aggregate()}
	if i.Agg == api.AgNone {
		i.Of = r.expr()
	} else {
		i.Of = r.aggregated(i.Agg)
	}
	if r.takes("AS") {
		i.As = r.name()
	}
	return i
}

func (r *reader) aggregate() int {
	for agg, word := range aggregateWords {
		if r.takes(word) {
			return agg
		}
	}
	return api.AgNone
}

// aggregated reads what an aggregate is of; the star, of all rows, is COUNT's alone.
func (r *reader) aggregated(agg int) api.Expr {
	var of api.Expr
	r.take("(")
	if agg != api.AgCount || !r.takes("*") {
		of = r.expr()
	}
	r.take(")")
	return of
}

func (r *reader) where() api.Expr {
	if !r.takes("WHERE") {
		return nil
	}
	return r.expr()
}

func (r *reader) sort() api.Sort {
	s := api.Sort{Col: r.name()}
	if s.Desc = r.takes("DESC"); !s.Desc {
		r.takes("ASC")
	}
	return s
}

func (r *reader) update(s *api.Stmt) {
	s.Table = r.name()
	r.take("SET")
	var row []api.Expr
	s.Names = listOf(r, api.MaxList, func(r *reader) string {
		name := r.name()
		r.take("=")
		row = append(row, r.expr())
		return name
	})
	s.Rows = [][]api.Expr{row}
	s.Where = r.where()
}

func (r *reader) remove(s *api.Stmt) {
	r.take("FROM")
	s.Table = r.name()
	s.Where = r.where()
}

func (r *reader) begin(s *api.Stmt) {
	s.Level = api.Snapshot
	for level, words := range levelWords {
		if len(words) > 0 && r.is(words[0]) {
			s.Level = level
			r.take(words...)
			return
		}
	}
}
