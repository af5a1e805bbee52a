package match

import (
	"slices"

	"tributary/api"
	"tributary/event"
	"tributary/fresh"
	"tributary/node"
)

// finders tells what looks for moves from a node to what it keeps now; each tells, too, whether there may be any at all.
func finders() []func(was, now api.Node) ([]api.Move, bool) {
	return []func(was, now api.Node) ([]api.Move, bool){made, learned, showed, reported}
}

// made finds the change, or the word, that the node made.
func made(was, now api.Node) ([]api.Move, bool) {
	if now.Seq == was.Seq {
		return nil, true
	}
	d := api.Dot{Node: now.Number, Seq: now.Seq}
	i := slices.IndexFunc(now.Store, func(e api.Event) bool { return e.Dot == d })
	if now.Seq != was.Seq+1 || now.Kind == api.KindGateway || i < 0 {
		return nil, false
	}
	x := api.Move{Kind: api.MoveChange, Node: now.Number, Path: now.Store[i].Path, Effect: fresh.Effect(now.Store[i].Effect)}
	if now.Kind == api.KindRoot {
		x.Kind = api.MoveResolve
	}
	return []api.Move{x}, true
}

// learned finds the changes of others that came to the node.
func learned(was, now api.Node) ([]api.Move, bool) {
	had := map[api.Dot]struct{}{}
	for _, e := range was.Store {
		had[e.Dot] = struct{}{}
	}
	var out []api.Move
	for _, e := range now.Store {
		if _, is := had[e.Dot]; !is && e.Dot.Node != now.Number {
			out = append(out, api.Move{Kind: api.MoveLearn, Node: now.Number, Dot: e.Dot})
		}
	}
	return out, true
}

// showed finds that something else is shown, if not by the node's own change.
func showed(was, now api.Node) ([]api.Move, bool) {
	if now.Seq != was.Seq || sameShowing(was.Shown, now.Shown) {
		return nil, true
	}
	return []api.Move{{Kind: api.MoveShow, Node: now.Number}}, true
}

// sameShowing tells whether two showings are the same; what is shown is held against as an event without a dot.
func sameShowing(a, b []api.Shown) bool {
	return slices.EqualFunc(a, b, func(x, y api.Shown) bool {
		return event.Same(api.Event{Path: x.Path, Effect: x.Effect, Past: x.Past}, api.Event{Path: y.Path, Effect: y.Effect, Past: y.Past})
	})
}

// reported finds that something more is reported.
func reported(was, now api.Node) ([]api.Move, bool) {
	if len(now.Reports) <= len(was.Reports) {
		return nil, true
	}
	return []api.Move{{Kind: api.MoveReport, Node: now.Number, N: len(now.Reports)}}, true
}

// Between tells the moves from a node to what it keeps now.
func Between(was, now api.Node) ([]api.Move, api.Errno) {
	if node.Check(was) != api.OK || node.Check(now) != api.OK || was.Number != now.Number || was.Kind != now.Kind {
		return nil, api.ErrArg
	}
	var out []api.Move
	for _, find := range finders() {
		l, may := find(was, now)
		if !may {
			return nil, api.ErrState
		}
		out = append(out, l...)
	}
	return out, api.OK
}
