package scan_test

import (
	"math/rand"
	"slices"
	"strings"
	"testing"

	"tributary/api"
	"tributary/effect"
	"tributary/event"
	"tributary/scan"
	"tributary/shown"
	"tributary/table"
	"tributary/vfs"
)

func of(node, seq int) api.Dot { return api.Dot{Node: node, Seq: seq} }

func span(node, from, to int) api.Span { return api.Span{Node: node, From: from, To: to} }

func file(b ...byte) api.Effect { return api.Effect{Kind: api.KindFile, Bytes: b} }

var (
	gone = api.Effect{Kind: api.KindGone}
	dir  = api.Effect{Kind: api.KindDir}
)

func show(at string, e api.Effect, behind ...api.Span) api.Shown {
	return api.Shown{Path: at, Effect: e, Past: behind}
}

func shows(l ...api.Shown) []api.Shown { return l }

func change(at string, e api.Effect) api.Change { return api.Change{Path: at, Effect: e} }

func changes(l ...api.Change) []api.Change { return l }

func seen(at string, stamp int) api.Seen { return api.Seen{Path: at, Stamp: stamp} }

// sample is the chapter's: a Dir, a/b a File 7.
func sample() *vfs.FS {
	f := vfs.New()
	f.Mkdir("a", 0)
	f.Write("a/b", 0, []byte{7})
	return f
}

func same(x, y []api.Change) bool {
	return slices.EqualFunc(x, y, func(x, y api.Change) bool { return x.Path == y.Path && effect.Same(x.Effect, y.Effect) })
}

func sameShown(x, y []api.Shown) bool {
	return slices.EqualFunc(x, y, func(x, y api.Shown) bool {
		return x.Path == y.Path && effect.Same(x.Effect, y.Effect) && slices.Equal(x.Past, y.Past)
	})
}

// P16.1: when all paths were written.
func TestStamps(t *testing.T) {
	f := sample()
	f.Write("A/b", 0, nil)
	f.Mkdir("0", 0)
	f.Chmod("a", 1)
	f.Remove("0")
	if got := scan.Stamps(f); !slices.Equal(got, []api.Seen{seen("a", 4), seen("a/b", 2)}) {
		t.Error(got)
	}
	if len(scan.Stamps(nil))+len(scan.Stamps(vfs.New()))+len(scan.Stamps(&vfs.FS{})) > 0 {
		t.Error("none")
	}
}

// P16.2: file systems and showings that are none.
func TestChangesNone(t *testing.T) {
	bad := shows(show("x/y", dir))
	for _, f := range []*vfs.FS{nil, {}} {
		for _, l := range [][]api.Shown{nil, bad} {
			if got, err := scan.Changes(f, l, nil); err != api.ErrNil || len(got) > 0 {
				t.Error(got, err)
			}
		}
	}
	if got, err := scan.Changes(sample(), bad, nil); err != api.ErrArg || len(got) > 0 {
		t.Error(got, err)
	}
}

// P16.2: what the user has that is not shown; it touches nothing.
func TestChanges(t *testing.T) {
	f := sample()
	for i, x := range []struct {
		l    []api.Shown
		seen []api.Seen
		want []api.Change
	}{
		{nil, nil, changes(change("a", dir), change("a/b", file(7)))},
		{nil, scan.Stamps(f), nil},
		{nil, []api.Seen{seen("a", 1)}, changes(change("a/b", file(7)))},
		{nil, []api.Seen{seen("a", 2), seen("a", 1), seen("a/b", 0)}, changes(change("a", dir), change("a/b", file(7)))},
		{nil, []api.Seen{seen("a", 1), seen("a", 2), seen("a/b", 2), seen("c", 0)}, nil},
		{shows(show("a", dir), show("a/b", file(7))), nil, nil},
		{shows(show("a", dir), show("a/b", file(8))), nil, changes(change("a/b", file(7)))},
		{shows(show("a", dir), show("a/b", file(8))), []api.Seen{seen("a/b", 2)}, nil},
		{shows(show("a", dir), show("a/b", gone)), nil, changes(change("a/b", file(7)))},
		{shows(show("a", dir), show("a/b", gone), show("x", gone)), []api.Seen{seen("a/b", 2)}, nil},
		{shows(show("x", dir), show("x/y", dir), show("x/y/z", file()), show("z", file())), nil, changes(change("z", gone), change("x/y/z", gone), change("x/y", gone), change("x", gone), change("a", dir), change("a/b", file(7)))},
		{shows(show("x", dir), show("x/y", dir)), []api.Seen{seen("x", 0), seen("x/y", 5), seen("a", 1)}, changes(change("x/y", gone), change("x", gone), change("a/b", file(7)))},
		{shows(show("a", api.Effect{Kind: api.KindDir, Mode: 1}), show("a/b", dir), show("a/c", file(1)), show("a-", file(1))), nil, changes(change("a-", gone), change("a/c", gone), change("a", dir), change("a/b", file(7)))},
	} {
		was := slices.Clone(x.seen)
		got, err := scan.Changes(f, x.l, x.seen)
		if err != api.OK || !same(got, x.want) || !slices.Equal(was, x.seen) {
			t.Error(i, got, err)
		}
	}
	if f.Clock() != 2 {
		t.Error(f.Clock())
	}
}

// P16.3: the events, from a dot on, each over the showing that the one ahead of it told.
func TestMake(t *testing.T) {
	events, l, err := scan.Make(nil, changes(change("a", dir), change("a/b", file(7))), of(3, 1))
	want := []api.Event{{Dot: of(3, 1), Path: "a", Effect: dir}, {Dot: of(3, 2), Path: "a/b", Effect: file(7), Past: []api.Span{span(3, 1, 1)}}}
	shownThen := shows(show("a", dir, span(3, 1, 1)), show("a/b", file(7), span(3, 1, 2)))
	if err != api.OK || !slices.EqualFunc(events, want, event.Same) || !sameShown(l, shownThen) {
		t.Error(events, l, err)
	}
	for i, x := range []struct {
		l       []api.Shown
		changes []api.Change
		d       api.Dot
		err     api.Errno
	}{
		{nil, changes(change("a/b", file(7))), of(3, 1), api.ErrKind},
		{nil, changes(change("a", dir), change("a/b", file(7)), change("a", gone)), of(3, 1), api.ErrKind},
		{nil, changes(change("a", dir), change("A", dir)), of(3, 1), api.ErrArg},
		{nil, changes(change("a", dir)), of(0, 1), api.ErrArg},
		{nil, changes(change("a", dir), change("b", dir)), of(3, api.MaxSeq), api.ErrArg},
		{shownThen, changes(change("a", gone)), of(3, 3), api.ErrKind},
		{shownThen, changes(change("a/b", gone)), of(3, 2), api.ErrArg},
		{shows(show("x/y", dir)), nil, of(3, 1), api.ErrArg},
	} {
		events, l, err := scan.Make(x.l, x.changes, x.d)
		if err != x.err || len(events)+len(l) > 0 {
			t.Error(i, events, l, err)
		}
	}
	if events, l, err := scan.Make(shownThen, nil, of(0, 0)); err != api.OK || len(events) > 0 || !sameShown(l, shownThen) {
		t.Error(events, l, err)
	}
	if events, _, err := scan.Make(nil, changes(change("a", dir)), of(3, api.MaxSeq)); err != api.OK || len(events) != 1 {
		t.Error(events, err)
	}
}

// P16.2, P16.3: the chapter's example of what was removed.
func TestRemoved(t *testing.T) {
	f := sample()
	all, _ := scan.Changes(f, nil, nil)
	_, l, _ := scan.Make(nil, all, of(3, 1))
	f.Remove("a")
	if got, err := scan.Changes(f, l, nil); err != api.OK || !same(got, changes(change("a/b", gone), change("a", gone))) {
		t.Error(got, err)
	}
}

// P16.4: what Changes tells can be made; then what is shown is what the user has; the events are closed.
func TestWhatFollows(t *testing.T) {
	rnd := rand.New(rand.NewSource(1))
	any := func() string {
		l := make([]string, 1+rnd.Intn(3))
		for i := range l {
			l[i] = string(rune('a' + rnd.Intn(3)))
		}
		return strings.Join(l, "/")
	}
	made := 0
	for range 150 {
		f := vfs.New()
		var l []api.Shown
		var all []api.Event
		for range 15 {
			for range rnd.Intn(9) {
				switch at := any(); rnd.Intn(5) {
				case 0, 1:
					f.Write(at, rnd.Intn(2), []byte{byte(rnd.Intn(3))})
				case 2:
					f.Mkdir(at, 0)
				case 3:
					f.Remove(at)
				case 4:
					f.Rename(at, any())
				}
			}
			clock, was := f.Clock(), f.Tree()
			todo, err := scan.Changes(f, l, nil)
			if diff, _ := table.Diff(was, f.Tree()); err != api.OK || f.Clock() != clock || len(diff) > 0 {
				t.Fatal(err, diff)
			}
			events, now, err := scan.Make(l, todo, of(5, len(all)+1))
			if err != api.OK || len(events) != len(todo) {
				t.Fatal(l, todo, err)
			}
			over := l
			for i, e := range events {
				behind, _ := shown.Past(over, e.Path)
				if !slices.Equal(e.Past, behind) || e.Dot != of(5, len(all)+1+i) || e.Path != todo[i].Path || !effect.Same(e.Effect, todo[i].Effect) {
					t.Fatal(over, todo[i], e)
				}
				_, over, _ = shown.Make(over, e.Dot, e.Path, e.Effect)
			}
			all, l = append(all, events...), now
			made += len(events)
			tree, _ := shown.Tree(l)
			if diff, _ := table.Diff(tree, f.Tree()); len(diff) > 0 {
				t.Fatal(diff)
			}
			if left, _ := scan.Changes(f, l, nil); len(left) > 0 {
				t.Fatal(left)
			}
		}
		if !event.Closed(all) {
			t.Fatal(all)
		}
	}
	if made < 1000 {
		t.Error("too few:", made)
	}
}

// What is told is new memory.
func TestMemory(t *testing.T) {
	f := sample()
	got, _ := scan.Changes(f, nil, nil)
	got[1].Effect.Bytes[0] = 9
	if f.Tree()[1].Effect.Bytes[0] != 7 {
		t.Error(f.Tree())
	}
	in := append(shows(show("d", file(5), span(1, 1, 1))), show("spare", dir))[:1]
	_, l, _ := scan.Make(in, nil, of(0, 0))
	l[0].Effect.Bytes[0], l[0].Past[0].To = 9, 9
	_ = append(l, show("x", dir))
	todo := changes(change("e", file(6)))
	events, l, _ := scan.Make(in, todo, of(3, 1))
	events[0].Effect.Bytes[0], l[0].Past[0].To = 9, 9
	if l[1].Effect.Bytes[0] != 6 || todo[0].Effect.Bytes[0] != 6 || !sameShown(in[:2], shows(show("d", file(5), span(1, 1, 1)), show("spare", dir))) {
		t.Error(in[:2], l, todo)
	}
}
