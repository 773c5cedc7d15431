package tongue_test

import (
	"fmt"
	"reflect"
	"strings"

	"strata/api"
)

// setFields lists the fields of a struct that are neither zero nor empty; a list without entries is empty.
func setFields(s any) (set []string) {
	v := reflect.ValueOf(s)
	for i := range v.NumField() {
		f := v.Field(i)
		switch {
		case f.Kind() == reflect.Slice && f.Len() == 0:
		case f.Kind() == reflect.Struct && len(setFields(f.Interface())) == 0:
		case f.IsZero():
		default:
			set = append(set, v.Type().Field(i).Name)
		}
	}
	return set
}

// only tells whether no other fields than these are set.
func only(s any, fields string) bool {
	for _, name := range setFields(s) {
		if !strings.Contains(" Kind "+fields+" ", " "+name+" ") {
			return false
		}
	}
	return true
}

// plainValid says of a command what P15.7 does.
func plainValid(c api.Command) bool {
	switch c.Kind {
	case api.CmStmt:
		return only(c, "Who Stmt") && c.Who >= 0 && plainStatement(c.Stmt)
	case api.CmPlay:
		return only(c, "Bytes") && len(c.Bytes) <= api.MaxText
	case api.CmTick, api.CmMerge, api.CmCut:
		return only(c, "Num") && c.Num >= 0
	case api.CmCrash:
		for _, n := range c.Keep {
			if n < 0 {
				return false
			}
		}
		return only(c, "Keep") && len(c.Keep) <= api.MaxList
	case api.CmDrain, api.CmFlush, api.CmSync, api.CmCheckpoint, api.CmRestart, api.CmCheck:
		return only(c, "")
	}
	return false
}

func named(names ...string) bool {
	for _, name := range names {
		if len(name) < 1 || len(name) > api.MaxName {
			return false
		}
	}
	return true
}

func counted[T any](list []T, least, most int) bool { return len(list) >= least && len(list) <= most }

func plainExprs(list ...api.Expr) bool {
	for _, e := range list {
		if _, good := plainExpr(e); !good {
			return false
		}
	}
	return true
}

func plainStatement(s api.Stmt) bool {
	where := len(s.Where) == 0 || plainExprs(s.Where)
	switch s.Kind {
	case api.StCreate:
		for _, c := range s.Cols {
			if !named(c.Name) || c.Type != api.KInt && c.Type != api.KText && c.Type != api.KBool {
				return false
			}
		}
		return only(s, "Table Cols Key") && named(s.Table) && named(s.Key...) && counted(s.Cols, 1, 16) && counted(s.Key, 1, 16)
	case api.StDrop:
		return only(s, "Table") && named(s.Table)
	case api.StInsert:
		for _, row := range s.Rows {
			if !counted(row, 1, 16) || !plainExprs(row...) {
				return false
			}
		}
		return only(s, "Table Names Rows") && named(s.Table) && named(s.Names...) && counted(s.Names, 0, 16) && counted(s.Rows, 1, 64)
	case api.StSelect:
		for _, i := range s.Items {
			star := i.Agg == api.AgCount && len(i.Of) == 0
			if i.Agg < 0 || i.Agg > 4 || !star && !plainExprs(i.Of) || i.As != "" && !named(i.As) {
				return false
			}
		}
		for _, o := range s.Order {
			if !named(o.Col) {
				return false
			}
		}
		return only(s, "Table Items Where Order Limit") && named(s.Table) && counted(s.Items, 0, 16) && counted(s.Order, 0, 16) && where && s.Limit >= -1
	case api.StUpdate:
		return only(s, "Table Names Rows Where") && named(s.Table) && named(s.Names...) && counted(s.Names, 1, 16) && len(s.Rows) == 1 && len(s.Rows[0]) == len(s.Names) && plainExprs(s.Rows[0]...) && where
	case api.StDelete:
		return only(s, "Table Where") && named(s.Table) && where
	case api.StBegin:
		return only(s, "Level") && s.Level >= 1 && s.Level <= 4
	case api.StCommit, api.StRollback:
		return only(s, "")
	}
	return false
}

// commas writes a list with commas between its entries.
func commas[T any](list []T, write func(T) string) string {
	var texts []string
	for _, x := range list {
		texts = append(texts, write(x))
	}
	return strings.Join(texts, ", ")
}

func exprText(e api.Expr) string {
	text, _ := plainExpr(e)
	return text
}

// plainPrint prints a valid command, as P15.8 says.
func plainPrint(c api.Command) string {
	words := map[int]string{api.CmPlay: "PLAY", api.CmDrain: "DRAIN", api.CmTick: "TICK", api.CmFlush: "FLUSH", api.CmSync: "SYNC", api.CmCheckpoint: "CHECKPOINT", api.CmMerge: "MERGE", api.CmCrash: "CRASH", api.CmRestart: "RESTART", api.CmCheck: "CHECK", api.CmCut: "CUT"}
	line := words[c.Kind]
	switch c.Kind {
	case api.CmStmt:
		line = fmt.Sprintf("@%d %s", c.Who, plainStatementText(c.Stmt))
	case api.CmPlay:
		line += fmt.Sprintf(" x'%x'", c.Bytes)
	case api.CmTick, api.CmMerge, api.CmCut:
		line += fmt.Sprintf(" %d", c.Num)
	case api.CmCrash:
		if len(c.Keep) > 0 {
			line += " " + commas(c.Keep, func(n int) string { return fmt.Sprint(n) })
		}
	}
	return line + ";\n"
}

func plainStatementText(s api.Stmt) string {
	table, where := plainName(s.Table), ""
	if len(s.Where) > 0 {
		where = " WHERE " + exprText(s.Where)
	}
	switch s.Kind {
	case api.StCreate:
		cols := commas(s.Cols, func(c api.ColDef) string {
			text := plainName(c.Name) + " " + map[api.Kind]string{api.KInt: "INT", api.KText: "TEXT", api.KBool: "BOOL"}[c.Type]
			if c.NotNull {
				text += " NOT NULL"
			}
			return text
		})
		return "CREATE TABLE " + table + " (" + cols + ", PRIMARY KEY (" + commas(s.Key, plainName) + "))"
	case api.StDrop:
		return "DROP TABLE " + table
	case api.StInsert:
		names := ""
		if len(s.Names) > 0 {
			names = " (" + commas(s.Names, plainName) + ")"
		}
		return "INSERT INTO " + table + names + " VALUES " + commas(s.Rows, func(row []api.Expr) string { return "(" + commas(row, exprText) + ")" })
	case api.StSelect:
		return plainQuery(s, table, where)
	case api.StUpdate:
		var sets []string
		for i, name := range s.Names {
			sets = append(sets, plainName(name)+" = "+exprText(s.Rows[0][i]))
		}
		return "UPDATE " + table + " SET " + strings.Join(sets, ", ") + where
	case api.StDelete:
		return "DELETE FROM " + table + where
	case api.StBegin:
		return "BEGIN " + []string{"", "READ COMMITTED", "SNAPSHOT", "REPEATABLE READ", "SERIALIZABLE"}[s.Level]
	case api.StCommit:
		return "COMMIT"
	}
	return "ROLLBACK"
}

func plainQuery(s api.Stmt, table, where string) string {
	items := "*"
	if len(s.Items) > 0 {
		items = commas(s.Items, func(i api.Item) string {
			text := exprText(i.Of)
			if i.Agg == api.AgCount && len(i.Of) == 0 {
				text = "*"
			}
			if i.Agg != api.AgNone {
				text = []string{"", "COUNT", "SUM", "MIN", "MAX"}[i.Agg] + "(" + text + ")"
			}
			if i.As != "" {
				text += " AS " + plainName(i.As)
			}
			return text
		})
	}
	text := "SELECT " + items + " FROM " + table + where
	if len(s.Order) > 0 {
		text += " ORDER BY " + commas(s.Order, func(o api.Sort) string {
			if o.Desc {
				return plainName(o.Col) + " DESC"
			}
			return plainName(o.Col)
		})
	}
	if s.Limit >= 0 {
		text += fmt.Sprintf(" LIMIT %d", s.Limit)
	}
	return text
}
