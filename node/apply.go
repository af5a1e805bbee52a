package node

import (
	"slices"

	"tributary/api"
	"tributary/edge"
	"tributary/fresh"
	"tributary/ledger"
	"tributary/past"
	"tributary/shown"
	"tributary/store"
)

// work is a node that records change; its lists are replaced, none is written into.
type work struct{ node api.Node }

const kinds = api.RecReport + 1

// doers tells how records are done, by their kinds.
func doers() [kinds]func(*work, api.Rec) api.Errno {
	return [kinds]func(*work, api.Rec) api.Errno{
		api.RecOwn:    (*work).own,
		api.RecEvent:  (*work).event,
		api.RecShown:  (*work).shown,
		api.RecPeer:   (*work).peer,
		api.RecLearn:  (*work).learn,
		api.RecDrop:   (*work).drop,
		api.RecEpoch:  (*work).epoch,
		api.RecReport: (*work).report,
	}
}

func (w *work) do(r api.Rec) api.Errno {
	if r.Kind < api.RecOwn || r.Kind >= kinds {
		return api.ErrArg
	}
	return doers()[r.Kind](w, r)
}

// own keeps a change that the node made.
func (w *work) own(r api.Rec) api.Errno {
	n, e := w.node, r.Event
	if e.Dot.Node != n.Number || e.Dot.Seq != n.Seq+1 {
		return api.ErrArg
	}
	var err api.Errno
	if n.Store, err = store.Put(n.Store, e); err != api.OK {
		return err
	}
	if n.Kind == api.KindLaptop {
		with, err := past.Add(e.Past, e.Dot)
		if err != api.OK {
			return err
		}
		if n.Shown, err = shown.Put(n.Shown, api.Shown{Path: e.Path, Effect: e.Effect, Past: with}); err != api.OK {
			return err
		}
	}
	n.Seq++
	w.node = n
	return api.OK
}

// event keeps a change that another node made.
func (w *work) event(r api.Rec) api.Errno {
	if r.Event.Dot.Node == w.node.Number {
		return api.ErrArg
	}
	s, err := store.Put(w.node.Store, r.Event)
	if err == api.OK {
		w.node.Store = s
	}
	return err
}

// shown keeps what a laptop shows.
func (w *work) shown(r api.Rec) api.Errno {
	if w.node.Kind != api.KindLaptop {
		return api.ErrState
	}
	l, err := shown.Put(w.node.Shown, r.Shown)
	if err == api.OK {
		w.node.Shown = l
	}
	return err
}

// peer keeps an edge, and what is known at its other end.
func (w *work) peer(r api.Rec) api.Errno {
	if r.N == w.node.Number {
		return api.ErrArg
	}
	a, err := edge.Reset(api.Archive{Node: r.N}, r.N, r.Known)
	if err != api.OK {
		return err
	}
	i, there := find(w.node, r.N)
	end := i
	if there {
		end++
	}
	w.node.Peers = slices.Concat(w.node.Peers[:i], []api.Archive{a}, w.node.Peers[end:])
	return api.OK
}

// learn keeps that a change is known at the other end of an edge.
func (w *work) learn(r api.Rec) api.Errno {
	i, there := find(w.node, r.N)
	if !there {
		return api.ErrMissing
	}
	a, err := edge.Learn(w.node.Peers[i], r.Dot)
	if err != api.OK {
		return err
	}
	w.node.Peers = slices.Clone(w.node.Peers)
	w.node.Peers[i] = a
	return api.OK
}

// drop lets an edge go.
func (w *work) drop(r api.Rec) api.Errno {
	i, there := find(w.node, r.N)
	if !there {
		return api.ErrMissing
	}
	w.node.Peers = slices.Concat(w.node.Peers[:i], w.node.Peers[i+1:])
	return api.OK
}

// epoch keeps a new epoch.
func (w *work) epoch(r api.Rec) api.Errno {
	if r.N <= w.node.Epoch || r.N > api.MaxEpoch {
		return api.ErrArg
	}
	w.node.Epoch = r.N
	return api.OK
}

// report keeps that all that clashes is reported.
func (w *work) report(r api.Rec) api.Errno {
	if w.node.Kind != api.KindRoot {
		return api.ErrState
	}
	l, _, err := ledger.Scan(w.node.Reports, w.node.Store, r.N)
	if err == api.OK {
		w.node.Reports = l
	}
	return err
}

// Apply tells the node that a record makes of one.
func Apply(n api.Node, r api.Rec) (api.Node, api.Errno) {
	if err := Check(n); err != api.OK {
		return api.Node{}, err
	}
	w := &work{node: n}
	if err := w.do(r); err != api.OK {
		return api.Node{}, err
	}
	return fresh.Node(w.node), api.OK
}

// Replay tells the node that records make of one, one behind the other.
func Replay(n api.Node, l [][]byte) (api.Node, api.Errno) {
	if err := Check(n); err != api.OK {
		return api.Node{}, err
	}
	w := &work{node: n}
	for _, b := range l {
		r, fault := GetRec(b)
		if fault.Err != api.OK {
			return api.Node{}, api.ErrArg
		}
		if err := w.do(r); err != api.OK {
			return api.Node{}, err
		}
	}
	return fresh.Node(w.node), api.OK
}
