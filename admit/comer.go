package admit

import (
	"slices"
	"strings"

	"herald/api"
	"herald/prim"
)

// comer is a neighbour that comes of another one's range: all is as that one has it, but for who it is.
type comer struct {
	api.Peer
	addr string
}

// told is the neighbour as it stands in a list of its own right.
func (c comer) told() (api.Peer, api.Errno) {
	name, err := c.name()
	if err != api.OK {
		return api.Peer{}, err
	}
	p := c.Peer
	p.Name, p.Addr, p.Range = name, c.addr, api.Prefix{}
	p.Fams = slices.Clone(c.Fams)
	return p, api.OK
}

// name tells the ones that come of one range apart.
func (c comer) name() (string, api.Errno) {
	text, err := prim.AddrText(c.addr)
	if err != api.OK {
		return "", err
	}
	// Held against the limit ahead of it being put together: the name that it begins with may be of any length.
	if len(c.Name) >= api.MaxName-len(text) {
		return "", api.ErrLong
	}
	return c.Name + "-" + dashed(text), api.OK
}

// dashed is a text of an address in bytes that a name may have.
func dashed(text string) string {
	return strings.Map(func(r rune) rune {
		if r == '.' || r == ':' {
			return '-'
		}
		return r
	}, text)
}
