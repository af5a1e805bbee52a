package script

import (
	"bytes"
	"slices"

	"tributary/api"
	"tributary/clash"
	"tributary/fleet"
	"tributary/ledger"
	"tributary/shown"
	"tributary/topo"
)

// Settled tells whether nothing is left to be done.
func Settled(f *fleet.Fleet) bool {
	if isNone(f) || len(f.Air()) > 0 {
		return false
	}
	first, members := f.Node(root), f.Members()
	for _, n := range topo.Live(members) {
		x := f.Node(n)
		if !f.Up(n) || !slices.EqualFunc(x.Store, first.Store, sameEvent) {
			return false
		}
		if members[n-1].Kind == api.KindLaptop && !shows(x, f.Tree(n)) {
			return false
		}
	}
	return !slices.ContainsFunc(clash.All(first.Store), func(c api.Clash) bool { return !ledger.Has(first.Reports, c) })
}

// shows tells whether a laptop's user has just what is shown, and nothing is to be shown next.
func shows(x api.Node, has []api.Entry) bool {
	tree, err := shown.Tree(x.Shown)
	if err != api.OK || !slices.EqualFunc(tree, has, sameEntry) {
		return false
	}
	_, some := shown.Next(x.Shown, x.Store)
	return !some
}

func sameEvent(a, b api.Event) bool {
	return a.Dot == b.Dot && a.Path == b.Path && sameEffect(a.Effect, b.Effect) && slices.Equal(a.Past, b.Past)
}

func sameEntry(a, b api.Entry) bool { return a.Path == b.Path && sameEffect(a.Effect, b.Effect) }

func sameEffect(a, b api.Effect) bool {
	return a.Kind == b.Kind && a.Mode == b.Mode && bytes.Equal(a.Bytes, b.Bytes)
}
