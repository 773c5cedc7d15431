package tongue

import (
	"math"
	"slices"

	"strata/api"
)

// commandShape says of a kind of commands how great its numbers may be, how long its texts and lists; what is not named has to be zero or empty.
type commandShape struct {
	who, num, bytes, keep span
	statement             span // the kinds of statements; 0 is none
}

func shapeOfCommand(kind int) commandShape {
	switch kind {
	case api.CmStmt:
		return commandShape{who: span{0, math.MaxInt}, statement: span{api.StCreate, api.StRollback}}
	case api.CmPlay:
		return commandShape{bytes: span{0, api.MaxText}}
	case api.CmTick, api.CmMerge, api.CmCut:
		return commandShape{num: span{0, math.MaxInt}}
	case api.CmCrash:
		return commandShape{keep: span{0, api.MaxList}}
	}
	return commandShape{}
}

// statementShape says the same of a kind of statements.
type statementShape struct {
	table, cols, key, names, rows, items, where, order, level span
	least, most                                               int64 // the limit
}

func shapeOfStatement(kind int) statementShape {
	shape := statementShape{table: span{1, api.MaxName}}
	switch kind {
	case api.StCreate:
		shape.cols, shape.key = span{1, api.MaxList}, span{1, api.MaxList}
	case api.StDrop:
	case api.StInsert:
		shape.names, shape.rows = span{0, api.MaxList}, span{1, api.MaxRows}
	case api.StSelect:
		shape.items, shape.order = span{0, api.MaxList}, span{0, api.MaxList}
		shape.where = span{0, math.MaxInt}
		shape.least, shape.most = -1, math.MaxInt64
	case api.StUpdate:
		shape.names, shape.rows = span{1, api.MaxList}, span{1, 1}
		shape.where = span{0, math.MaxInt}
	case api.StDelete:
		shape.where = span{0, math.MaxInt}
	case api.StBegin:
		return statementShape{level: span{api.ReadCommitted, api.Serializable}}
	default:
		return statementShape{}
	}
	return shape
}

// isCommand tells whether some text is read as a command (P15.7).
func isCommand(c api.Command) bool {
	if c.Kind < api.CmStmt || c.Kind > api.CmCut {
		return false
	}
	shape := shapeOfCommand(c.Kind)
	return shape.who.holds(c.Who) && shape.num.holds(c.Num) && shape.bytes.holds(len(c.Bytes)) &&
		isList(shape.keep, c.Keep, isNumber) && shape.statement.holds(c.Stmt.Kind) && isStatement(c.Stmt)
}

// isStatement tells the same of a statement; one without a kind has to be empty.
func isStatement(s api.Stmt) bool {
	shape := shapeOfStatement(s.Kind)
	if s.Kind == api.StUpdate && len(s.Rows) == 1 && len(s.Rows[0]) != len(s.Names) {
		return false
	}
	return shape.table.holds(len(s.Table)) && shape.where.holds(len(s.Where)) && shape.level.holds(s.Level) &&
		s.Limit >= shape.least && s.Limit <= shape.most &&
		isList(shape.cols, s.Cols, isColumn) && isList(shape.key, s.Key, isName) && isList(shape.names, s.Names, isName) &&
		isList(shape.rows, s.Rows, isRow) && isList(shape.items, s.Items, isItem) && isList(shape.order, s.Order, isSort) &&
		(len(s.Where) == 0 || isExpr(s.Where))
}

// isList tells whether a list is as long as it may be, and each entry is good.
func isList[T any](long span, list []T, good func(T) bool) bool {
	return long.holds(len(list)) && !slices.ContainsFunc(list, func(entry T) bool { return !good(entry) })
}

func isNumber(n int) bool { return n >= 0 }

func isColumn(c api.ColDef) bool {
	return isName(c.Name) && c.Type >= api.KBool && c.Type <= api.KText
}

func isRow(row []api.Expr) bool { return isList(span{1, api.MaxList}, row, isExpr) }

func isExpr(e api.Expr) bool {
	_, good := treeOf(e)
	return good
}

func isItem(i api.Item) bool {
	all := i.Agg == api.AgCount && len(i.Of) == 0
	return i.Agg >= api.AgNone && i.Agg <= api.AgMax && (all || isExpr(i.Of)) && (i.As == "" || isName(i.As))
}

func isSort(s api.Sort) bool { return isName(s.Col) }
