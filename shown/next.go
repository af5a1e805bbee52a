package shown

import (
	"iter"
	"slices"

	"tributary/api"
	"tributary/clash"
	"tributary/dot"
	"tributary/effect"
	"tributary/event"
	"tributary/fresh"
	"tributary/order"
	"tributary/past"
	"tributary/path"
	"tributary/shelf"
)

// asked is a path of which it is asked whether it is ready: its shelf, all events, and all that is shown.
type asked struct {
	path   string
	shelf  []api.Event
	events []api.Event
	shown  []api.Shown
}

// ready asks one by one what a path that is ready must be; the dearest comes last.
func (a *asked) ready() bool {
	for _, is := range []func(*asked) bool{(*asked).alike, (*asked).isNew, (*asked).lies, (*asked).leaves, (*asked).free} {
		if !is(a) {
			return false
		}
	}
	return true
}

// alike tells whether there is a shelf, and of one effect alone.
func (a *asked) alike() bool { return shelf.Alike(a.shelf) }

func (a *asked) effect() api.Effect { return a.shelf[0].Effect }

// isNew tells whether the path is not shown as it is.
func (a *asked) isNew() bool {
	x, has := get(a.shown, a.path)
	behind, err := shelf.Past(a.shelf)
	return !has || err != api.OK || !effect.Same(x.Effect, a.effect()) || !past.Within(behind, x.Past)
}

// lies tells whether what is to be there has a Dir to lie in, if it needs one.
func (a *asked) lies() bool {
	up, has := path.Parent(a.path)
	if !has || a.effect().Kind == api.KindGone {
		return true
	}
	x, _ := get(a.shown, up)
	return x.Effect.Kind == api.KindDir
}

// leaves tells whether nothing is shown under the path, if nothing may be.
func (a *asked) leaves() bool {
	return a.effect().Kind == api.KindDir || !slices.ContainsFunc(a.shown, func(x api.Shown) bool {
		return x.Effect.Kind != api.KindGone && path.Under(a.path, x.Path)
	})
}

// free tells whether none of the path's events clashes with any other one.
func (a *asked) free() bool {
	return !slices.ContainsFunc(a.shelf, func(e api.Event) bool { return len(clash.With(a.events, e)) > 0 })
}

// shelves tells the paths of events, in order, and of each its events by rising dots.
func shelves(events []api.Event) iter.Seq2[string, []api.Event] {
	at := map[string][]api.Event{}
	var paths []string
	for _, e := range events {
		at[e.Path] = append(at[e.Path], e)
		paths = append(paths, e.Path)
	}
	return func(yield func(string, []api.Event) bool) {
		for _, p := range path.Sort(paths) {
			slices.SortFunc(at[p], byDot)
			if !yield(p, at[p]) {
				return
			}
		}
	}
}

func byDot(a, b api.Event) int { return order.Of(a.Dot, b.Dot, dot.Less) }

// Next tells what of the first path that is ready may be shown next.
func Next(l []api.Shown, events []api.Event) (api.Shown, bool) {
	if Check(l) != api.OK || slices.ContainsFunc(events, func(e api.Event) bool { return event.Check(e) != api.OK }) {
		return api.Shown{}, false
	}
	for p, those := range shelves(events) {
		if a := (&asked{path: p, shelf: those, events: events, shown: l}); a.ready() {
			return a.told()
		}
	}
	return api.Shown{}, false
}

// told tells what is to be shown of a path that is ready, if its past is not too long.
func (a *asked) told() (api.Shown, bool) {
	behind, err := shelf.Past(a.shelf)
	if err != api.OK {
		return api.Shown{}, false
	}
	x, _ := get(a.shown, a.path)
	all, err := past.Join(behind, x.Past)
	if err != api.OK {
		return api.Shown{}, false
	}
	return api.Shown{Path: a.path, Effect: fresh.Effect(a.effect()), Past: all}, true
}
