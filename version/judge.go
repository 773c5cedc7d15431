package version

import "strata/api"

// JudgeBegin is the table of the begin word: what a reader at the timestamp at says of a version whose begin word holds a transaction with this state and end (0: not drawn); own: it is the reader itself (P7.3).
func JudgeBegin(own bool, state int, end, at uint64) int {
	if own {
		return api.SayYes
	}
	switch state {
	case api.TxPreparing:
		if end == 0 {
			return api.SayAsk
		}
		if end <= at {
			return api.SayMaybe
		}
		fallthrough // an end above at is too late, whatever becomes of the transaction
	case api.TxCommitted:
		if end <= at {
			return api.SayYes
		}
	case api.TxTerminated:
		return api.SayAgain
	}
	return api.SayNo
}

// JudgeEnd is the table of the end word, likewise.
func JudgeEnd(own bool, state int, end, at uint64) int {
	if own {
		return api.SayNo
	}
	switch state {
	case api.TxPreparing:
		if end == 0 {
			return api.SayAsk
		}
		if end <= at {
			return api.SayUnless
		}
		fallthrough // an end above at is too late, whatever becomes of the transaction
	case api.TxCommitted:
		if end <= at {
			return api.SayNo
		}
		fallthrough // and what comes too late is as if it never came
	case api.TxActive, api.TxAborted:
		return api.SayYes
	case api.TxTerminated:
		return api.SayAgain
	}
	return api.SayNo
}
