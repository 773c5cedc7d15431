package tongue

import "strata/api"

// keywords are the words that are no names unless they are quoted (P15.1).
var keywords = [...]string{
	"AND", "AS", "ASC", "BEGIN", "BETWEEN", "BOOL", "BY", "CASE", "CHECK", "CHECKPOINT", "COMMIT", "COMMITTED",
	"COUNT", "CRASH", "CREATE", "CUT", "DELETE", "DESC", "DRAIN", "DROP", "ELSE", "END", "FALSE", "FLUSH", "FROM",
	"IN", "INSERT", "INT", "INTO", "IS", "KEY", "LIKE", "LIMIT", "MAX", "MERGE", "MIN", "NOT", "NULL", "OR", "ORDER",
	"PLAY", "PRIMARY", "READ", "REPEATABLE", "RESTART", "ROLLBACK", "SELECT", "SERIALIZABLE", "SET", "SNAPSHOT",
	"SUM", "SYNC", "TABLE", "TEXT", "THEN", "TICK", "TRUE", "UPDATE", "VALUES", "WHEN", "WHERE",
}

// signs are those of a script: of two that begin alike the longer one comes first.
var signs = [...]string{"<>", "<=", ">=", "||", "!=", "(", ")", ",", ";", "*", "+", "-", "/", "%", "=", "<", ">", "@"}

// commandWords are the tokens with which commands begin, by their kinds.
var commandWords = [...]string{
	api.CmStmt: "@", api.CmPlay: "PLAY", api.CmDrain: "DRAIN", api.CmTick: "TICK", api.CmFlush: "FLUSH", api.CmSync: "SYNC",
	api.CmCheckpoint: "CHECKPOINT", api.CmMerge: "MERGE", api.CmCrash: "CRASH", api.CmRestart: "RESTART", api.CmCheck: "CHECK", api.CmCut: "CUT",
}

// statementWords are the tokens with which statements begin, by their kinds.
var statementWords = [...]string{
	api.StCreate: "CREATE", api.StDrop: "DROP", api.StInsert: "INSERT", api.StSelect: "SELECT", api.StUpdate: "UPDATE",
	api.StDelete: "DELETE", api.StBegin: "BEGIN", api.StCommit: "COMMIT", api.StRollback: "ROLLBACK",
}

// levelWords are the tokens of a BEGIN's level, by the level.
var levelWords = [...][]string{
	api.ReadCommitted: {"READ", "COMMITTED"}, api.Snapshot: {"SNAPSHOT"}, api.RepeatableRead: {"REPEATABLE", "READ"}, api.Serializable: {"SERIALIZABLE"},
}

// typeWords are the types of columns, by their kinds.
var typeWords = [...]string{api.KBool: "BOOL", api.KInt: "INT", api.KText: "TEXT"}

// aggregateWords are the aggregates' names, by their numbers.
var aggregateWords = [...]string{api.AgCount: "COUNT", api.AgSum: "SUM", api.AgMin: "MIN", api.AgMax: "MAX"}

// constantWords are the keywords that are expressions, by their operations.
var constantWords = [...]string{api.ExNull: "NULL", api.ExTrue: "TRUE", api.ExFalse: "FALSE"}

// isKeyword tells whether a word in capitals is one.
func isKeyword(word string) bool {
	for _, k := range keywords {
		if k == word {
			return true
		}
	}
	return false
}

func isSmall(b byte) bool { return b >= 'a' && b <= 'z' || b == '_' }

func isDigit(b byte) bool { return b >= '0' && b <= '9' }

// isLetter tells whether a byte begins a word; bytes above 127 never do, whatever letter they are a part of.
func isLetter(b byte) bool { return isSmall(b) || b >= 'A' && b <= 'Z' }

func isWordByte(b byte) bool { return isLetter(b) || isDigit(b) }
