package conf

import (
	"slices"

	"herald/api"
	"herald/polc"
)

// Same tells whether two configurations are the same, whether they may be or not.
func Same(a, b api.Config) bool {
	return plainOf(a) == plainOf(b) && slices.Equal(a.Members, b.Members) &&
		slices.EqualFunc(a.Vrfs, b.Vrfs, sameVrf) && slices.EqualFunc(a.Peers, b.Peers, samePeer) && slices.Equal(a.Statics, b.Statics) &&
		slices.EqualFunc(a.Sets, b.Sets, sameSet) && slices.EqualFunc(a.Rules, b.Rules, polc.Same)
}

// plain has the fields of a configuration that are no lists.
type plain struct {
	as, id, confed, cluster, low, high uint32
	addr                               string
}

func plainOf(c api.Config) plain {
	return plain{c.AS, c.Id, c.Confed, c.Cluster, c.Low, c.High, c.Addr}
}

func sameVrf(a, b api.Vrf) bool {
	return a.Name == b.Name && a.RD == b.RD && slices.Equal(a.Import, b.Import) && slices.Equal(a.Export, b.Export)
}

func samePeer(a, b api.Peer) bool {
	return a.Name == b.Name && a.Addr == b.Addr && a.Range == b.Range && a.AS == b.AS && slices.Equal(a.Fams, b.Fams) &&
		sameParts(numbers(&a), numbers(&b)) && sameParts(flags(&a), flags(&b)) && sameParts(named(&a), named(&b))
}

// sameParts tells whether two peers have the same in those of their parts.
func sameParts[T comparable](a, b []part[T]) bool {
	return slices.EqualFunc(a, b, func(x, y part[T]) bool { return *x.value == *y.value })
}

func sameSet(a, b api.Set) bool {
	return a.Name == b.Name && a.Kind == b.Kind && slices.Equal(a.Items, b.Items) && slices.Equal(a.Comms, b.Comms) &&
		slices.EqualFunc(a.Paths, b.Paths, slices.Equal[[]api.Atom])
}
