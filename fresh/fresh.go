// Package fresh makes new memory of what layers are handed, keep and answer, so that no two of them share any.
package fresh

import (
	"bytes"
	"slices"

	"tributary/api"
)

// list makes a list of new elements; none of none.
func list[E any](l []E, one func(E) E) []E {
	if len(l) == 0 {
		return nil
	}
	out := make([]E, len(l))
	for i, x := range l {
		out[i] = one(x)
	}
	return out
}

// Effect makes a new effect.
func Effect(e api.Effect) api.Effect {
	e.Bytes = bytes.Clone(e.Bytes)
	return e
}

// Entry makes a new entry.
func Entry(x api.Entry) api.Entry {
	x.Effect = Effect(x.Effect)
	return x
}

// Entries makes a new list of entries.
func Entries(t []api.Entry) []api.Entry { return list(t, Entry) }

// Event makes a new event.
func Event(e api.Event) api.Event {
	e.Effect = Effect(e.Effect)
	e.Past = slices.Clone(e.Past)
	return e
}

// Events makes a new list of events.
func Events(l []api.Event) []api.Event { return list(l, Event) }

// Shown makes a new one of what is shown of a path.
func Shown(x api.Shown) api.Shown {
	x.Effect = Effect(x.Effect)
	x.Past = slices.Clone(x.Past)
	return x
}

// Showing makes a new showing.
func Showing(l []api.Shown) []api.Shown { return list(l, Shown) }

// Archive makes a new archive.
func Archive(a api.Archive) api.Archive {
	a.Known = slices.Clone(a.Known)
	return a
}

// Node makes a new node.
func Node(n api.Node) api.Node {
	n.Store = Events(n.Store)
	n.Shown = Showing(n.Shown)
	n.Peers = list(n.Peers, Archive)
	n.Reports = slices.Clone(n.Reports)
	return n
}

// Air makes a new list of frames on their way.
func Air(l []api.Air) []api.Air {
	return list(l, func(x api.Air) api.Air {
		x.Raw = bytes.Clone(x.Raw)
		return x
	})
}

// replica makes a new node of a model.
func replica(r api.Replica) api.Replica {
	r.Known = slices.Clone(r.Known)
	r.Shown = Showing(r.Shown)
	return r
}

// Model makes a new model.
func Model(m api.Model) api.Model {
	return api.Model{Events: Events(m.Events), Nodes: list(m.Nodes, replica), Reports: slices.Clone(m.Reports)}
}

// Nodes makes a new list of nodes.
func Nodes(l []api.Node) []api.Node { return list(l, Node) }
