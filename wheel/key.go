package wheel

import (
	"cmp"

	"herald/api"
)

// mayBe tells whether a timer may have the key.
func mayBe(k api.Key) bool {
	return k.Kind >= api.TimeRetry && k.Kind <= api.TimeStale && isName(k.Peer) && k.Fam >= 0 && k.Fam <= api.Families
}

// compare tells which one of two keys stands ahead: by Kind, then Peer, then Fam.
func compare(a, b api.Key) int {
	return cmp.Or(cmp.Compare(a.Kind, b.Kind), cmp.Compare(a.Peer, b.Peer), cmp.Compare(a.Fam, b.Fam))
}

func isName(s string) bool {
	if s == "" || len(s) > api.MaxName || !isLetter(s[0]) {
		return false
	}
	for _, c := range []byte(s) {
		if !isLetter(c) && !isDigit(c) && c != '-' {
			return false
		}
	}
	return true
}

func isLetter(c byte) bool { return c >= 'a' && c <= 'z' }

func isDigit(c byte) bool { return c >= '0' && c <= '9' }
