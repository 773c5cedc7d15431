package image

import "strata/api"

// What may stand in files: the rules for encoding and for decoding alike.

func mayBeData(p api.FilePair) bool {
	if !isFileNo(p.Id) || p.Lo >= p.Hi || p.Hi > api.MaxTime || len(p.Data) > api.MaxPairData {
		return false
	}
	for i, d := range p.Data {
		if d.Begin <= p.Lo || d.Begin > p.Hi || !isKey(d.Key) || len(d.Data) > api.MaxData {
			return false
		}
		if i > 0 && order(p.Data[i-1].Begin, p.Data[i-1].Key, d.Begin, d.Key) >= 0 {
			return false
		}
	}
	return true
}

func mayBeDelta(p api.FilePair) bool {
	if !isFileNo(p.Id) || !isFileNo(p.Gen) || len(p.Gone) < 1 || len(p.Gone) > api.MaxPairData {
		return false
	}
	for i, g := range p.Gone {
		if g.Begin < 1 || g.End <= g.Begin || g.End > api.MaxTime || !isKey(g.Key) {
			return false
		}
		if i > 0 && order(p.Gone[i-1].Begin, p.Gone[i-1].Key, g.Begin, g.Key) >= 0 {
			return false
		}
	}
	return true
}

func mayBeManifest(m api.Manifest) bool {
	if !isFileNo(m.Gen) || m.Next < 1 || m.Next > api.MaxFileNo+1 || m.Upto > api.MaxTime || len(m.Pairs) > api.MaxPairs {
		return false
	}
	ids := map[int]int{}
	hi := uint64(0)
	for _, p := range m.Pairs {
		ids[p.Id]++
		if ids[p.Id] > 1 || p.Lo < hi || !mayList(m, p) {
			return false
		}
		hi = p.Hi
	}
	return true
}

// mayList tells whether a pair by itself may stand in that manifest.
func mayList(m api.Manifest, p api.PairName) bool {
	switch {
	case p.Id < 1 || p.Id >= m.Next:
	case p.Lo >= p.Hi || p.Hi > m.Upto:
	case p.Rows < 0 || p.Rows > api.MaxPairData:
	case p.Gen < 0 || p.Gen > m.Gen:
	case p.Gone < 0 || p.Gone > p.Rows:
	case (p.Gone == 0) != (p.Gen == 0):
	case p.Gen == 0 && p.DeltaSum != 0:
	default:
		return true
	}
	return false
}

func isFileNo(n int) bool { return n >= 1 && n <= api.MaxFileNo }

func isKey(key string) bool { return len(key) >= 1 && len(key) <= api.MaxKey }
