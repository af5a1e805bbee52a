package install_test

import (
	"bytes"
	"math"
	"math/rand"
	"slices"
	"strings"
	"testing"

	"tributary/api"
	"tributary/effect"
	"tributary/install"
	"tributary/scan"
	"tributary/shown"
	"tributary/store"
	"tributary/table"
	"tributary/vfs"
)

func of(node, seq int) api.Dot { return api.Dot{Node: node, Seq: seq} }

func span(node, from, to int) api.Span { return api.Span{Node: node, From: from, To: to} }

func file(b ...byte) api.Effect { return api.Effect{Kind: api.KindFile, Bytes: b} }

var (
	gone = api.Effect{Kind: api.KindGone}
	dir  = api.Effect{Kind: api.KindDir}
)

func make1(d api.Dot, at string, e api.Effect, behind ...api.Span) api.Event {
	return api.Event{Dot: d, Path: at, Effect: e, Past: behind}
}

func show(at string, e api.Effect, behind ...api.Span) api.Shown {
	return api.Shown{Path: at, Effect: e, Past: behind}
}

func intent(at string, e api.Effect, stamp int, behind ...api.Span) api.Intent {
	return api.Intent{Path: at, Effect: e, Past: behind, Stamp: stamp}
}

func list(l ...api.Event) []api.Event { return l }

// a and b are the chapter's; first and second are the intents that they lead to.
var (
	a      = make1(of(1, 1), "d", dir)
	b      = make1(of(2, 1), "d/f", file(7), span(1, 1, 1))
	first  = intent("d", dir, 0, span(1, 1, 1))
	second = intent("d/f", file(7), 0, span(1, 1, 1), span(2, 1, 1))
	bad    = []api.Shown{show("x/y", dir)}
)

func alike(x, y api.Intent) bool {
	return x.Path == y.Path && effect.Same(x.Effect, y.Effect) && slices.Equal(x.Past, y.Past) && x.Stamp == y.Stamp
}

func sameShown(x, y []api.Shown) bool {
	return slices.EqualFunc(x, y, func(x, y api.Shown) bool {
		return x.Path == y.Path && effect.Same(x.Effect, y.Effect) && slices.Equal(x.Past, y.Past)
	})
}

func odd(node, n int) []api.Span {
	var l []api.Span
	for i := range n {
		l = append(l, span(node, 2*i+1, 2*i+1))
	}
	return l
}

var noIntents = []api.Intent{{}, intent("D", dir, 0), intent("", dir, 0), intent("d", api.Effect{}, 0), intent("d", dir, -1), intent("d", dir, 1<<40+1), intent("d", dir, math.MaxInt), intent("d", dir, 0, span(1, 2, 1)), intent("d", api.Effect{Kind: api.KindGone, Mode: 1}, 0)}

// P24.1 to P24.4: which intents may be, and what is told of those that may not.
func TestCheck(t *testing.T) {
	deep := strings.Repeat("abcdefghijkl/", 5) + "abcdefghijkl"
	for i, x := range []api.Intent{first, second, intent("d", gone, 1<<40), intent(deep, file(make([]byte, 1000)...), 5, odd(7, 4000)...)} {
		raw, err := install.Bytes(x)
		back, fault := install.Read(raw)
		if install.Check(x) != api.OK || err != api.OK || fault != (api.Fault{}) || !alike(back, x) {
			t.Error(i, err, fault)
		}
	}
	for i, x := range noIntents {
		f := vfs.New()
		raw, e1 := install.Bytes(x)
		l, e2 := install.Finish(nil, x)
		n, e3 := install.Recover(f, nil, x)
		for _, err := range []api.Errno{install.Check(x), e1, e2, e3, install.Commit(f, x)} {
			if err != api.ErrArg {
				t.Error(i, err)
			}
		}
		if len(raw)+len(l)+n+f.Clock() > 0 {
			t.Error(i)
		}
	}
}

// P24.1, P24.2, P24.3: file systems that nobody made, and showings that are none.
func TestNone(t *testing.T) {
	for i, f := range []*vfs.FS{nil, {}} {
		x, ok, e1 := install.Stage(f, bad, nil)
		n, e2 := install.Recover(f, bad, api.Intent{})
		for _, err := range []api.Errno{e1, e2, install.Commit(f, api.Intent{}), install.Commit(f, first)} {
			if err != api.ErrNil {
				t.Error(i, err)
			}
		}
		if ok || n != 0 || !alike(x, api.Intent{}) {
			t.Error(i, x)
		}
	}
	x, ok, e1 := install.Stage(vfs.New(), bad, list(a))
	n, e2 := install.Recover(vfs.New(), bad, first)
	l, e3 := install.Finish(bad, first)
	if e1 != api.ErrArg || e2 != api.ErrArg || e3 != api.ErrArg || ok || n != 0 || len(l) > 0 || !alike(x, api.Intent{}) {
		t.Error(e1, e2, e3)
	}
}

// P24.1, P24.2, P24.3: the chapter's examples.
func TestExamples(t *testing.T) {
	f := vfs.New()
	x, ok, err := install.Stage(f, nil, list(a, b))
	if err != api.OK || !ok || !alike(x, first) || f.Clock() != 0 {
		t.Fatal(x, ok, err)
	}
	if err := install.Commit(f, x); err != api.OK || f.Stamp("d") != 1 {
		t.Error(err)
	}
	l, err := install.Finish(nil, x)
	if err != api.OK || !sameShown(l, []api.Shown{show("d", dir, span(1, 1, 1))}) {
		t.Error(l, err)
	}
	x, ok, err = install.Stage(f, l, list(a, b))
	if err != api.OK || !ok || !alike(x, second) {
		t.Error(x, ok, err)
	}
	f.Write("d/f", 0, []byte{8})
	if err := install.Commit(f, x); err != api.ErrBusy || f.Clock() != 2 {
		t.Error(err)
	}
	if y, ok, err := install.Stage(f, l, list(a, b)); ok || err != api.OK || !alike(y, api.Intent{}) {
		t.Error(y, ok, err)
	}
	for i, x := range []struct {
		f    *vfs.FS
		l    []api.Shown
		x    api.Intent
		want int
	}{{f, l, second, api.RecoverLost}, {f, nil, first, api.RecoverDone}, {vfs.New(), nil, first, api.RecoverAgain}, {f, l, intent("d/f", file(7), 2), api.RecoverAgain}, {f, l, intent("d/f", file(8), 0), api.RecoverDone}, {f, l, intent("z", gone, 5), api.RecoverDone}, {f, l, intent("d", gone, 1), api.RecoverAgain}, {f, l, intent("d", gone, 2), api.RecoverLost}} {
		if got, err := install.Recover(x.f, x.l, x.x); got != x.want || err != api.OK {
			t.Error(i, got, err)
		}
	}
}

// P24.1: nothing is staged while the user has what is not shown, or if nothing is next.
func TestStage(t *testing.T) {
	f := vfs.New()
	f.Mkdir("x", 0)
	lx := []api.Shown{show("x", dir, span(5, 1, 1))}
	for i, c := range []struct {
		l      []api.Shown
		events []api.Event
		ok     bool
	}{{nil, list(a), false}, {lx, list(a), true}, {lx, nil, false}, {append(lx, show("y", file())), list(a), false}, {append(lx, show("y", gone)), list(a), true}, {[]api.Shown{show("x", api.Effect{Kind: api.KindDir, Mode: 1})}, list(a), false}, {lx, list(b), false}, {lx, list(api.Event{}), false}} {
		if x, ok, err := install.Stage(f, c.l, c.events); ok != c.ok || err != api.OK || ok && !alike(x, first) || !ok && !alike(x, api.Intent{}) {
			t.Error(i, x, ok, err)
		}
	}
	f.Chmod("x", 3)
	lx = []api.Shown{show("x", api.Effect{Kind: api.KindDir, Mode: 3}, span(5, 1, 1))}
	over := make1(of(6, 1), "x", gone, span(5, 1, 1))
	if x, ok, err := install.Stage(f, lx, list(over)); !ok || err != api.OK || !alike(x, intent("x", gone, 2, span(5, 1, 1), span(6, 1, 1))) {
		t.Error(x, ok, err)
	}
}

// P24.2: what a commit is refused for.
func TestCommit(t *testing.T) {
	f := vfs.New()
	f.Mkdir("d", 0)
	f.Write("d/f", 0, nil)
	for i, c := range []struct {
		x    api.Intent
		want api.Errno
	}{{intent("d", gone, 1), api.ErrKind}, {intent("d", file(1), 1), api.ErrKind}, {intent("d/f/g", file(1), 0), api.ErrKind}, {intent("x/g", file(1), 0), api.ErrMissing}, {intent("d/f", file(1), 1), api.ErrBusy}, {intent("z", gone, 0), api.OK}, {intent("d/f", file(1), 2), api.OK}, {intent("d/f", gone, 3), api.OK}, {intent("d", gone, 1), api.OK}} {
		if err := install.Commit(f, c.x); err != c.want {
			t.Error(i, err)
		}
	}
	if len(f.Tree()) > 0 || f.Clock() != 5 {
		t.Error(f.Tree(), f.Clock())
	}
	if l, err := install.Finish(nil, second); err != api.ErrKind || len(l) > 0 {
		t.Error(l, err)
	}
}

// P24.4: the bytes, and what is none.
func TestBytes(t *testing.T) {
	if raw, err := install.Bytes(intent("d", gone, 5)); err != api.OK || !bytes.Equal(raw, []byte{1, 1, 100, 1, 4, 1, 3, 0, 0, 1, 2, 0, 0, 1, 5}) {
		t.Error(raw, err)
	}
	text := func(n int) []byte {
		return append([]byte{2, byte(n >> 8), byte(n)}, bytes.Repeat([]byte{'a'}, n)...)
	}
	cat := func(parts ...[]byte) []byte { return slices.Concat(parts...) }
	e, none := []byte{1, 4, 1, 3, 0, 0}, []byte{1, 2, 0, 0}
	d := []byte{1, 1, 100}
	for i, x := range []struct {
		b   []byte
		err api.Errno
		at  int
	}{
		{nil, api.ErrBytes, 0}, {[]byte{9}, api.ErrArg, 0}, {cat([]byte{1, 78}, bytes.Repeat([]byte{'a'}, 78)), api.ErrLong, 0}, {d, api.ErrBytes, 3}, {cat(d, text(1101)), api.ErrLong, 3}, {cat(d, e, text(40001)), api.ErrLong, 9}, {cat(d, e, none), api.ErrBytes, 13}, {cat(d, e, none, []byte{6, 1, 0, 0, 0, 0, 1}), api.ErrRange, 13}, {cat(d, e, none, []byte{0, 0}), api.ErrBytes, 14}, {cat(d, text(1100), none, []byte{0}), api.ErrArg, 0}, {cat(d, e, text(40000), []byte{0}), api.ErrArg, 0},
		{cat([]byte{1, 1, 68}, e, none, []byte{0}), api.ErrArg, 0}, {cat(d, none, none, []byte{0}), api.ErrArg, 0}, {cat(d, e, e, []byte{0}), api.ErrArg, 0}, {cat([]byte{0}, e, none, []byte{0}), api.ErrArg, 0}, {cat(d, []byte{0}, none, []byte{0}), api.ErrArg, 0}, {cat(d, e, []byte{0, 0}), api.ErrArg, 0},
	} {
		if got, fault := install.Read(x.b); fault != (api.Fault{Err: x.err, At: x.at}) || !alike(got, api.Intent{}) {
			t.Error(i, got, fault)
		}
	}
}

// laptop is a user, what is shown, and the store of what is known.
type laptop struct {
	f     *vfs.FS
	shown []api.Shown
	store []api.Event
	seq   int
}

// write lets the user do something.
func (x *laptop) write(rnd *rand.Rand) {
	at := []string{"d", "d/f", "d/g", "e", "e/f"}[rnd.Intn(5)]
	switch rnd.Intn(4) {
	case 0, 1:
		x.f.Write(at, 0, []byte{byte(rnd.Intn(4))})
	case 2:
		x.f.Mkdir(at, 0)
	case 3:
		x.f.Remove(at)
	}
}

// scan makes events of all that the user changed.
func (x *laptop) scan(t *testing.T, node int) {
	t.Helper()
	changes, _ := scan.Changes(x.f, x.shown, nil)
	events, now, err := scan.Make(x.shown, changes, of(node, x.seq+1))
	if err != api.OK {
		t.Fatal(err)
	}
	for _, e := range events {
		x.store, _ = store.Put(x.store, e)
	}
	x.shown, x.seq = now, x.seq+len(events)
}

// unshown tells what the user has that is not shown.
func (x *laptop) unshown() []api.Change {
	l, _ := scan.Changes(x.f, x.shown, nil)
	return l
}

// P24.5, P24.6: what was not shown is never written over; and whether all stops ahead of a commit or behind it, Recover tells what was done.
func TestUsersWork(t *testing.T) {
	rnd := rand.New(rand.NewSource(1))
	wrote, lost, done := 0, 0, 0
	for range 1500 {
		laptops := []*laptop{{f: vfs.New()}, {f: vfs.New()}}
		for range 40 {
			n := rnd.Intn(2)
			x := laptops[n]
			switch rnd.Intn(4) {
			case 0:
				x.write(rnd)
			case 1:
				x.scan(t, n+1)
			case 2:
				x.store, _ = store.Join(x.store, laptops[1-n].store)
			case 3:
				in, ok, err := install.Stage(x.f, x.shown, x.store)
				if err != api.OK || ok != (len(x.unshown()) == 0 && hasNext(x)) {
					t.Fatal(ok, err)
				}
				if !ok {
					continue
				}
				if rnd.Intn(3) == 0 {
					x.write(rnd)
				}
				mine, was := x.unshown(), x.f.Tree()
				err = api.ErrBusy
				if rnd.Intn(3) > 0 {
					err = install.Commit(x.f, in)
				}
				diff, _ := table.Diff(was, x.f.Tree())
				if len(diff) > 1 || len(diff) == 1 && (diff[0].Path != in.Path || err != api.OK) {
					t.Fatal(in, diff)
				}
				for _, c := range mine {
					if e, _ := table.Get(x.f.Tree(), c.Path); c.Effect.Kind != api.KindGone && !effect.Same(e, c.Effect) {
						t.Fatal(in, c)
					}
				}
				what, _ := install.Recover(x.f, x.shown, in)
				if err == api.OK && what != api.RecoverDone {
					t.Fatal(in, what)
				}
				if what == api.RecoverDone {
					if x.shown, err = install.Finish(x.shown, in); err != api.OK {
						t.Fatal(in, err)
					}
					done++
				}
				if what == api.RecoverLost {
					lost++
				}
				wrote += len(diff)
			}
		}
	}
	if wrote < 500 || lost < 20 || done < 500 {
		t.Error("too few:", wrote, lost, done)
	}
}

func hasNext(x *laptop) bool {
	_, ok := shown.Next(x.shown, x.store)
	return ok
}

// P24.7: staged, committed and finished again and again, it ends, and then the user has just what is shown.
func TestItEnds(t *testing.T) {
	rnd := rand.New(rand.NewSource(2))
	for range 200 {
		x, y := &laptop{f: vfs.New()}, &laptop{f: vfs.New()}
		for range 12 {
			x.write(rnd)
			x.scan(t, 1)
		}
		y.store = x.store
		for i := 0; ; i++ {
			in, ok, err := install.Stage(y.f, y.shown, y.store)
			if err != api.OK || i > len(store.Paths(y.store)) {
				t.Fatal(i, err)
			}
			if !ok {
				break
			}
			if err := install.Commit(y.f, in); err != api.OK {
				t.Fatal(err)
			}
			if y.shown, err = install.Finish(y.shown, in); err != api.OK {
				t.Fatal(err)
			}
			if tree, _ := shown.Tree(y.shown); !sameTree(tree, y.f.Tree()) {
				t.Fatal(tree, y.f.Tree())
			}
		}
		if hasNext(y) || len(y.unshown()) > 0 || !sameTree(x.f.Tree(), y.f.Tree()) {
			t.Fatal(x.f.Tree(), y.f.Tree())
		}
	}
}

func sameTree(a, b []api.Entry) bool {
	diff, err := table.Diff(a, b)
	return err == api.OK && len(diff) == 0
}

// What is told is new memory.
func TestMemory(t *testing.T) {
	e := make1(of(1, 1), "f", file(7), span(2, 1, 1))
	f := vfs.New()
	x, _, _ := install.Stage(f, nil, list(e))
	install.Commit(f, x)
	l, _ := install.Finish(nil, x)
	x.Effect.Bytes[0], x.Past[0].To = 1, 9
	if e.Effect.Bytes[0] != 7 || e.Past[0].To != 1 || l[0].Effect.Bytes[0] != 7 || l[0].Past[0].To != 1 || f.Tree()[0].Effect.Bytes[0] != 7 {
		t.Error(e, l)
	}
}
