package peer_test

import (
	"bytes"
	"math"
	"math/rand"
	"slices"
	"testing"

	"tributary/api"
	"tributary/chunk"
	"tributary/disk"
	"tributary/effect"
	"tributary/event"
	"tributary/frame"
	"tributary/install"
	"tributary/journal"
	"tributary/node"
	"tributary/past"
	"tributary/peer"
	"tributary/store"
	"tributary/table"
	"tributary/vfs"
)

func of(number, seq int) api.Dot { return api.Dot{Node: number, Seq: seq} }

func span(number, from, to int) api.Span { return api.Span{Node: number, From: from, To: to} }

func file(b ...byte) api.Effect { return api.Effect{Kind: api.KindFile, Bytes: b} }

var (
	gone = api.Effect{Kind: api.KindGone}
	dir  = api.Effect{Kind: api.KindDir}
)

func make1(d api.Dot, at string, e api.Effect, behind ...api.Span) api.Event {
	return api.Event{Dot: d, Path: at, Effect: e, Past: behind}
}

func newDisk(t *testing.T, room int) *disk.Disk {
	t.Helper()
	d, err := disk.New(room)
	if err != api.OK {
		t.Fatal(err)
	}
	return d
}

func open(t *testing.T, d *disk.Disk, f *vfs.FS, number, kind int) *peer.Peer {
	t.Helper()
	p, err := peer.Open(d, f, number, kind, 1000)
	if err != api.OK {
		t.Fatal(number, err)
	}
	return p
}

func want(t *testing.T, errs []api.Errno, wanted ...api.Errno) {
	t.Helper()
	if !slices.Equal(errs, wanted) {
		t.Error(errs, wanted)
	}
}

func sameEvents(x, y []api.Event) bool { return slices.EqualFunc(x, y, event.Same) }

// out tells what goes out.
func out(t *testing.T, p *peer.Peer, to int) [][]byte {
	t.Helper()
	l, err := p.Out(to)
	if err != api.OK {
		t.Fatal(err)
	}
	return l
}

// hand hands over all that is out at each of two peers to the other one, so many times both ways.
func hand(t *testing.T, a, b *peer.Peer, times int) {
	t.Helper()
	x, y := a.Node().Number, b.Node().Number
	for range times {
		for _, raw := range out(t, a, y) {
			want(t, []api.Errno{b.Receive(x, raw)}, api.OK)
		}
		for _, raw := range out(t, b, x) {
			want(t, []api.Errno{a.Receive(y, raw)}, api.OK)
		}
	}
}

// known tells what is known at the other end of an edge.
func known(p *peer.Peer, n int) []api.Span {
	a, _ := node.Peer(p.Node(), n)
	return a.Known
}

// pair tells a root and a laptop 2 that are linked.
func pair(t *testing.T) (*peer.Peer, *peer.Peer, *vfs.FS) {
	t.Helper()
	f := vfs.New()
	a, b := open(t, newDisk(t, 100000), nil, 1, api.KindRoot), open(t, newDisk(t, 100000), f, 2, api.KindLaptop)
	want(t, []api.Errno{a.Link(2), b.Link(1)}, api.OK, api.OK)
	return a, b, f
}

// P26.1 to P26.8: peers that nobody made.
func TestNone(t *testing.T) {
	for i, p := range []*peer.Peer{nil, {}} {
		raw, err := p.Out(1)
		want(t, []api.Errno{err, p.Link(0), p.Unlink(0), p.Scan(), p.Absorb(), p.Install(), p.Report(-1), p.Resolve("", api.Effect{}), p.Tick(), p.Receive(1, nil)}, slices.Repeat([]api.Errno{api.ErrNil}, 10)...)
		n, m := p.Used()
		if got := p.Node(); got.Number != 0 || len(got.Peers)+n+m+len(raw) > 0 {
			t.Error(i, got)
		}
	}
}

// P26.1: what a peer is not opened for, in order.
func TestOpenRefused(t *testing.T) {
	broken := newDisk(t, 100)
	broken.Fuse(0)
	broken.Append("x", nil)
	damaged := newDisk(t, 100)
	damaged.Append("n.l", []byte{1})
	records := newDisk(t, 1000)
	j, _ := journal.Open(records, "n")
	j.Append([]byte{1, 7, 1, 5})
	j.Append([]byte{1, 7, 1, 5})
	intent := newDisk(t, 1000)
	intent.Fuse(9)
	for i, x := range []struct {
		d            *disk.Disk
		f            *vfs.FS
		number, kind int
		quota        int
		err          api.Errno
	}{
		{newDisk(t, 100), vfs.New(), 2, api.KindLaptop, 99, api.ErrArg}, {newDisk(t, 100), vfs.New(), 2, api.KindLaptop, 60001, api.ErrArg}, {newDisk(t, 100), vfs.New(), 2, api.KindLaptop, math.MinInt, api.ErrArg}, {newDisk(t, 100), vfs.New(), 0, api.KindLaptop, 1000, api.ErrArg}, {newDisk(t, 100), vfs.New(), 2, 4, 1000, api.ErrArg}, {newDisk(t, 100), vfs.New(), 201, api.KindGateway, 1000, api.ErrArg},
		{nil, vfs.New(), 2, api.KindLaptop, 1000, api.ErrNil}, {&disk.Disk{}, vfs.New(), 2, api.KindLaptop, 1000, api.ErrNil}, {broken, vfs.New(), 2, api.KindLaptop, 1000, api.ErrBroken}, {damaged, nil, 2, api.KindLaptop, 1000, api.ErrDamaged}, {records, nil, 2, api.KindLaptop, 1000, api.ErrArg},
		{newDisk(t, 100), nil, 2, api.KindLaptop, 1000, api.ErrNil}, {newDisk(t, 100), &vfs.FS{}, 2, api.KindLaptop, 1000, api.ErrNil}, {newDisk(t, 10), nil, 1, api.KindRoot, 1000, api.ErrFull}, {newDisk(t, 35), nil, 1, api.KindRoot, 1000, api.ErrFull}, {newDisk(t, 36), nil, 1, api.KindRoot, 1000, api.OK}, {newDisk(t, 100), nil, 1, api.KindGateway, 100, api.OK}, {newDisk(t, 100), nil, 200, api.KindGateway, 60000, api.OK},
	} {
		p, err := peer.Open(x.d, x.f, x.number, x.kind, x.quota)
		if err != x.err || (p == nil) != (err != api.OK) {
			t.Error(i, p, err)
		}
	}
	for _, x := range [][3]int{{0, api.KindRoot, 1000}, {201, api.KindLaptop, 1000}, {1, 4, 1000}, {1, api.KindRoot, 99}} {
		d := newDisk(t, 100)
		if p, err := peer.Open(d, vfs.New(), x[0], x[1], x[2]); err != api.ErrArg || p != nil || d.Steps() != 0 {
			t.Error(x, err)
		}
	}
	for fuse := range 5 {
		d := newDisk(t, 100)
		d.Fuse(fuse)
		if p, err := peer.Open(d, nil, 1, api.KindRoot, 1000); (err == api.OK) != (fuse == 4) || fuse < 4 && (err != api.ErrBroken || p != nil) {
			t.Error(fuse, err)
		}
	}
}

// P26.1 to P26.8: the chapter's examples.
func TestExamples(t *testing.T) {
	a := open(t, newDisk(t, 9000), nil, 1, api.KindRoot)
	if a.Node().Epoch != 1 {
		t.Error(a.Node())
	}
	want(t, []api.Errno{a.Link(2)}, api.OK)
	if n := a.Node(); n.Epoch != 2 || len(out(t, a, 2)) != 1 {
		t.Error(n)
	}
	want(t, []api.Errno{a.Scan(), a.Absorb(), a.Link(1)}, api.ErrState, api.ErrMissing, api.ErrArg)
	f, d := vfs.New(), newDisk(t, 9000)
	b := open(t, d, f, 2, api.KindLaptop)
	want(t, []api.Errno{b.Link(1), b.Scan(), f.Write("f", 0, []byte{7}), b.Scan(), b.Scan()}, api.OK, api.ErrMissing, api.OK, api.OK, api.ErrMissing)
	if b.Node().Seq != 1 {
		t.Error(b.Node())
	}
	hand(t, a, b, 4)
	want(t, []api.Errno{a.Absorb()}, api.OK)
	if s := a.Node().Store; !sameEvents(s, []api.Event{make1(of(2, 1), "f", file(7))}) {
		t.Error(s)
	}
	if len(known(b, 1)) > 0 {
		t.Error(known(b, 1))
	}
	hand(t, a, b, 1)
	if got := known(b, 1); !slices.Equal(got, []api.Span{span(2, 1, 1)}) || !slices.Equal(known(a, 2), got) {
		t.Error(got)
	}
	want(t, []api.Errno{d.Crash(nil)}, api.OK)
	b = open(t, d, f, 2, api.KindLaptop)
	if n := b.Node(); n.Epoch != 3 || n.Seq != 1 {
		t.Error(n)
	}
	want(t, []api.Errno{b.Resolve("f", gone), b.Unlink(9)}, api.ErrState, api.ErrMissing)
	if p, err := peer.Open(d, f, 2, api.KindLaptop, 50); p != nil || err != api.ErrArg {
		t.Error(err)
	}
}

// P26.2: linked, linked once more, and unlinked.
func TestLink(t *testing.T) {
	a, b, f := pair(t)
	f.Write("f", 0, nil)
	b.Scan()
	hand(t, a, b, 3)
	a.Absorb()
	hand(t, a, b, 1)
	want(t, []api.Errno{a.Link(7)}, api.OK)
	if n := a.Node(); n.Epoch != 3 || len(n.Peers) != 2 || n.Peers[0].Node != 2 || n.Peers[1].Node != 7 || len(n.Peers[0].Known) != 1 {
		t.Error(n)
	}
	hand(t, a, b, 1) // the other links' sessions stay
	if len(out(t, a, 2)) > 0 || len(out(t, b, 1)) > 0 {
		t.Error("something is owed")
	}
	want(t, []api.Errno{a.Link(2)}, api.OK)
	if n := a.Node(); n.Epoch != 4 || len(n.Peers) != 2 || len(n.Peers[0].Known) > 0 {
		t.Error(n)
	}
	if p, fault := frame.GetPacket(out(t, a, 2)[0]); fault.Err != api.OK || p.From != 4 || p.To != 0 {
		t.Error(p, fault)
	}
	hand(t, a, b, 3)
	b.Absorb()
	hand(t, a, b, 1)
	if !slices.Equal(known(a, 2), []api.Span{span(2, 1, 1)}) {
		t.Error(known(a, 2))
	}
	for _, n := range []int{0, 201, 1, math.MaxInt} {
		want(t, []api.Errno{a.Link(n), a.Unlink(n)}, api.ErrArg, api.ErrMissing)
	}
	want(t, []api.Errno{a.Unlink(2), a.Unlink(2)}, api.OK, api.ErrMissing)
	raw, err := a.Out(2)
	want(t, []api.Errno{err, a.Receive(2, nil)}, api.ErrMissing, api.ErrMissing)
	if n := a.Node(); len(raw) > 0 || len(n.Peers) != 1 || n.Peers[0].Node != 7 || n.Epoch != 4 {
		t.Error(n)
	}
}

// P26.2: wherever a Link, or an Unlink, stops.
func TestLinkStops(t *testing.T) {
	for fuse := range 5 {
		d := newDisk(t, 9000)
		p := open(t, d, nil, 1, api.KindRoot)
		d.Fuse(fuse)
		err := p.Link(2)
		if (err == api.OK) != (fuse == 4) || fuse < 4 && err != api.ErrBroken {
			t.Error(fuse, err)
		}
		if n := p.Node(); len(n.Peers) > 0 != (fuse >= 2) || n.Epoch > 1 != (fuse == 4) {
			t.Error(fuse, n)
		}
	}
	// a Link that had room for the edge, but not for the epoch, is none
	for room := 36; room < 100; room++ {
		d := newDisk(t, room)
		p := open(t, d, nil, 1, api.KindRoot)
		err := p.Link(2)
		n := p.Node()
		if err != api.OK && (err != api.ErrFull || p.Unlink(2) != api.ErrMissing || n.Epoch != 1) || err == api.OK && (len(n.Peers) != 1 || n.Epoch != 2) {
			t.Error(room, err, n)
		}
		if _, err := p.Out(2); (err == api.OK) != (n.Epoch == 2) {
			t.Error(room, err)
		}
	}
	for fuse := range 3 {
		d := newDisk(t, 9000)
		p := open(t, d, nil, 1, api.KindRoot)
		want(t, []api.Errno{p.Link(2), d.Fuse(fuse)}, api.OK, api.OK)
		err := p.Unlink(2)
		if (err == api.OK) != (fuse == 2) || fuse < 2 && err != api.ErrBroken || len(p.Node().Peers) > 0 != (fuse < 2) {
			t.Error(fuse, err)
		}
	}
}

// P26.3: the first change that can be made and is not too big is recorded.
func TestScan(t *testing.T) {
	f := vfs.New()
	p, err := peer.Open(newDisk(t, 9000), f, 2, api.KindLaptop, 100)
	if err != api.OK {
		t.Fatal(err)
	}
	f.Write("a", 0, make([]byte, 90))
	want(t, []api.Errno{p.Scan()}, api.ErrLong)
	f.Mkdir("b", 0)
	f.Write("b/c", 0, nil)
	f.Write("d", 0, make([]byte, 82))
	f.Write("e", 0, make([]byte, 83))
	want(t, []api.Errno{p.Scan(), p.Scan(), p.Scan(), p.Scan()}, api.OK, api.OK, api.OK, api.ErrLong)
	n := p.Node()
	if n.Seq != 3 || len(n.Store) != 3 || n.Store[0].Path != "b" || n.Store[1].Path != "b/c" || n.Store[2].Path != "d" || event.Size(n.Store[2]) != 100 || len(n.Shown) != 3 || !slices.Equal(n.Store[1].Past, []api.Span{span(2, 1, 1)}) {
		t.Error(n)
	}
	f.Remove("b")
	f.Write("b", 0, nil) // a File can come there just when nothing is under it any more
	f.Remove("a")
	f.Remove("e")
	want(t, []api.Errno{p.Scan(), p.Scan(), p.Scan()}, api.OK, api.OK, api.ErrMissing)
	if n := p.Node(); n.Seq != 5 || n.Store[0].Effect.Kind != api.KindFile || n.Store[1].Effect.Kind != api.KindGone {
		t.Error(n)
	}
	for _, kind := range []int{api.KindRoot, api.KindGateway} {
		want(t, []api.Errno{open(t, newDisk(t, 100), vfs.New(), 3, kind).Scan()}, api.ErrState)
	}
}

// P26.4: what is shown next is installed, step by step.
func TestInstall(t *testing.T) {
	a, b, f := pair(t)
	want(t, []api.Errno{a.Install(), b.Install(), a.Resolve("d", dir), a.Resolve("d/f", file(7))}, api.ErrState, api.ErrMissing, api.OK, api.OK)
	hand(t, a, b, 5)
	want(t, []api.Errno{b.Absorb(), b.Install(), b.Install()}, api.OK, api.OK, api.ErrMissing)
	hand(t, a, b, 5)
	f.Write("mine", 0, nil)
	want(t, []api.Errno{b.Absorb(), b.Install(), b.Scan(), b.Install(), b.Install()}, api.OK, api.ErrMissing, api.OK, api.OK, api.ErrMissing)
	if e, ok := table.Get(f.Tree(), "d/f"); !ok || !effect.Same(e, file(7)) || len(b.Node().Shown) != 3 {
		t.Error(f.Tree())
	}
}

// P26.4: with a Commit's error the intent is cleared, and nothing is shown.
func TestInstallRefused(t *testing.T) {
	d, f := newDisk(t, 100000), vfs.New()
	a, b := open(t, newDisk(t, 100000), nil, 1, api.KindRoot), open(t, d, f, 2, api.KindLaptop)
	want(t, []api.Errno{a.Link(2), b.Link(1)}, api.OK, api.OK)
	for i := range 200 {
		f.Write(string([]byte{'a' + byte(i/26), 'a' + byte(i%26)}), 0, nil)
	}
	for range 200 {
		want(t, []api.Errno{b.Scan()}, api.OK)
	}
	want(t, []api.Errno{a.Resolve("zz", dir)}, api.OK)
	hand(t, a, b, 5)
	want(t, []api.Errno{b.Absorb(), b.Install()}, api.OK, api.ErrFull)
	if n := b.Node(); len(n.Shown) != 200 {
		t.Error(len(n.Shown))
	}
	if _, err := d.Read("i"); err != api.ErrMissing || len(d.Loose()) > 0 {
		t.Error(err)
	}
}

// P26.4, P26.6: a disk that has no room any more.
func TestFullDisk(t *testing.T) {
	refused := map[string]int{}
	for room := 160; room < 500; room++ {
		d, f := newDisk(t, room), vfs.New()
		a, b := open(t, newDisk(t, 9000), nil, 1, api.KindRoot), open(t, d, f, 2, api.KindLaptop)
		want(t, []api.Errno{a.Link(2), b.Link(1), a.Resolve("some/where", gone), a.Resolve("f", file(make([]byte, 20)...))}, api.OK, api.OK, api.OK, api.OK)
		for range 2 {
			hand(t, a, b, 5)
			was := b.Node()
			if err := b.Absorb(); err == api.ErrFull {
				refused["absorb"]++
				if n, m := b.Used(); m != 1 || n == 0 || b.Absorb() != api.ErrFull {
					t.Fatal(room, n, m)
				}
				now := b.Node()
				stored, learned := len(now.Store) > len(was.Store), len(known(b, 1)) > 0 && !slices.Equal(known(b, 1), was.Peers[0].Known)
				hand(t, a, b, 2)
				if learned || stored != (len(now.Store) > len(was.Store)) || !slices.Equal(known(a, 2), was.Peers[0].Known) {
					t.Fatal(room, now)
				}
			} else if now := b.Node(); err != api.OK || len(now.Store) != len(was.Store)+1 || past.Count(known(b, 1)) != past.Count(was.Peers[0].Known)+1 {
				t.Fatal(room, err, now)
			}
		}
		s := b.Node()
		if len(s.Store) < 2 {
			continue
		}
		had := len(f.Tree())
		for err := api.OK; err == api.OK; {
			was := b.Node()
			if err = b.Install(); err == api.ErrFull {
				_, left := d.Read("i")
				refused[left.Error()]++
				if len(b.Node().Shown) != len(was.Shown) || b.Tick() != api.OK || left != api.OK && len(f.Tree()) != had {
					t.Fatal(room, left, b.Node().Shown)
				}
			} else if err != api.OK && err != api.ErrMissing {
				t.Fatal(room, err)
			}
			had = len(f.Tree())
		}
	}
	if refused["absorb"] < 20 || refused[api.OK.Error()] < 10 || refused[api.ErrMissing.Error()] < 10 {
		t.Error("too few:", refused)
	}
}

// installed lets an Install stop behind so many steps of its disk.
func installed(t *testing.T, fuse int) (*disk.Disk, *vfs.FS, api.Errno) {
	t.Helper()
	d, f := newDisk(t, 100000), vfs.New()
	a, b := open(t, newDisk(t, 100000), nil, 1, api.KindRoot), open(t, d, f, 2, api.KindLaptop)
	want(t, []api.Errno{a.Link(2), b.Link(1), a.Resolve("f", file(7))}, api.OK, api.OK, api.OK)
	hand(t, a, b, 3)
	want(t, []api.Errno{b.Absorb(), d.Fuse(fuse)}, api.OK, api.OK)
	err := b.Install()
	if len(b.Node().Shown) > 0 != (fuse >= 4) || (b.Tick() == api.ErrBroken) != (fuse == 2 || fuse == 3) {
		t.Error(fuse, b.Node().Shown)
	}
	return d, f, err
}

// P26.4, P26.1, P26.9: wherever an Install stops, and whatever is left, the next peer of the disk goes on.
func TestInstallStops(t *testing.T) {
	for fuse := range 7 {
		for keep := range 40 {
			d, f, err := installed(t, fuse)
			if (err == api.OK) != (fuse == 6) || fuse < 6 && err != api.ErrBroken {
				t.Fatal(fuse, err)
			}
			if there := len(f.Tree()) > 0; there != (fuse >= 2) {
				t.Fatal(fuse, f.Tree())
			}
			d.Crash(slices.Repeat([]int{keep}, 3))
			_, left := d.Read("i")
			b := open(t, d, f, 2, api.KindLaptop)
			if _, err := d.Read("i"); err != api.ErrMissing || len(d.Loose()) > 0 {
				t.Fatal(fuse, keep, err)
			}
			if shows := len(b.Node().Shown) > 0; shows != (fuse >= 2) || fuse >= 2 && fuse < 5 && left != api.OK {
				t.Fatal(fuse, keep, b.Node())
			}
			if fuse < 2 {
				want(t, []api.Errno{b.Install()}, api.OK)
			}
			want(t, []api.Errno{b.Scan(), b.Install()}, api.ErrMissing, api.ErrMissing)
			if n := b.Node(); len(n.Shown) != 1 || n.Shown[0].Path != "f" || len(n.Store) != 1 || n.Seq != 0 {
				t.Fatal(fuse, keep, n)
			}
		}
	}
}

// P26.1: an intent that was not done, or is none, is just cleared.
func TestIntent(t *testing.T) {
	intent := func(x api.Intent) []byte {
		raw, err := install.Bytes(x)
		if err != api.OK {
			t.Fatal(err)
		}
		return raw
	}
	for i, x := range []struct {
		raw   []byte
		shown int
		err   api.Errno
	}{
		{[]byte{1, 2, 3}, 0, api.OK}, {nil, 0, api.OK}, {intent(api.Intent{Path: "f", Effect: file(7), Stamp: 1}), 1, api.OK}, {intent(api.Intent{Path: "f", Effect: file(8), Stamp: 1}), 0, api.OK}, {intent(api.Intent{Path: "f", Effect: file(8), Stamp: 9}), 0, api.OK}, {intent(api.Intent{Path: "g/h", Effect: gone}), 1, api.OK}, {intent(api.Intent{Path: "d/f", Effect: file(1)}), 0, api.ErrKind},
	} {
		d, f := newDisk(t, 9000), vfs.New()
		f.Write("f", 0, []byte{7})
		f.Mkdir("d", 0)
		f.Write("d/f", 0, []byte{1})
		d.Replace("i", x.raw)
		d.Sync("i")
		p, err := peer.Open(d, f, 2, api.KindLaptop, 1000)
		if err != x.err {
			t.Error(i, err)
		}
		_, left := d.Read("i")
		if n := p.Node(); err == api.OK && (len(n.Shown) != x.shown || left != api.ErrMissing || n.Epoch != 1) || err != api.OK && p != nil {
			t.Error(i, n, left)
		}
	}
	d := newDisk(t, 9000) // none but a laptop looks at it
	d.Replace("i", []byte{1})
	open(t, d, nil, 1, api.KindRoot)
	if _, err := d.Read("i"); err != api.OK {
		t.Error(err)
	}
}

// P26.5: reports and an operator's words.
func TestReportResolve(t *testing.T) {
	a, b, f := pair(t)
	want(t, []api.Errno{b.Report(9), a.Report(-1), a.Report(10001), a.Report(9)}, api.ErrState, api.ErrArg, api.ErrArg, api.OK)
	f.Write("f", 0, []byte{7})
	b.Scan()
	want(t, []api.Errno{a.Resolve("f", dir), a.Resolve("F", dir), a.Resolve("f", api.Effect{}), b.Resolve("F", dir)}, api.OK, api.ErrArg, api.ErrArg, api.ErrState)
	hand(t, a, b, 3)
	want(t, []api.Errno{a.Absorb(), a.Report(0), a.Report(9), a.Report(9)}, api.OK, api.OK, api.OK, api.OK)
	if r := a.Node().Reports; !slices.Equal(r, []api.Report{{Number: 1, Clash: api.Clash{A: of(1, 1), B: of(2, 1)}}}) {
		t.Error(r)
	}
	want(t, []api.Errno{a.Resolve("f", gone)}, api.OK)
	if n := a.Node(); n.Seq != 2 || !sameEvents(n.Store, []api.Event{make1(of(1, 2), "f", gone, span(1, 1, 1), span(2, 1, 1))}) {
		t.Error(n)
	}
	p, _ := peer.Open(newDisk(t, 9000), nil, 1, api.KindRoot, 100)
	want(t, []api.Errno{p.Resolve("f", file(make([]byte, 83)...)), p.Resolve("f", file(make([]byte, 82)...))}, api.ErrLong, api.OK)
}

// P26.6, P26.7, P26.8: an event that is there already, or is the node's own, is answered all the same.
func TestAbsorb(t *testing.T) {
	a, b, f := pair(t)
	c := open(t, newDisk(t, 9000), nil, 3, api.KindGateway)
	want(t, []api.Errno{c.Link(1), c.Link(2), a.Link(3), b.Link(3)}, api.OK, api.OK, api.OK, api.OK)
	f.Write("f", 0, nil)
	b.Scan()
	hand(t, b, c, 3)
	want(t, []api.Errno{c.Absorb(), c.Absorb()}, api.OK, api.ErrMissing)
	hand(t, c, a, 3)
	hand(t, b, a, 3) // both links owe the one event that waits
	if n, m := a.Used(); n != 17 || m != 1 {
		t.Error(n, m)
	}
	want(t, []api.Errno{a.Absorb(), a.Absorb()}, api.OK, api.ErrMissing)
	for _, n := range []int{2, 3} {
		if !slices.Equal(known(a, n), []api.Span{span(2, 1, 1)}) {
			t.Error(n, known(a, n))
		}
	}
	hand(t, c, a, 1)
	hand(t, b, a, 1)
	if !slices.Equal(known(b, 1), []api.Span{span(2, 1, 1)}) || !slices.Equal(known(c, 1), known(b, 1)) {
		t.Error(known(b, 1), known(c, 1))
	}
	// its own comes back from who forgot that it is known here
	want(t, []api.Errno{c.Link(2), b.Link(3)}, api.OK, api.OK)
	hand(t, c, b, 3)
	want(t, []api.Errno{b.Absorb(), c.Absorb()}, api.OK, api.OK)
	if n := b.Node(); n.Seq != 1 || len(n.Store) != 1 {
		t.Error(n)
	}
	hand(t, c, b, 1)
	if !slices.Equal(known(c, 2), []api.Span{span(2, 1, 1)}) || !slices.Equal(known(b, 3), known(c, 2)) {
		t.Error(known(c, 2))
	}
}

// remote is the other end of an edge, done by hand.
type remote struct {
	t     *testing.T
	p     *peer.Peer
	me    int
	epoch int
	sent  int
	came  int
}

// meet links a peer to a node that is done by hand, and lets both know one another's epochs.
func meet(t *testing.T, p *peer.Peer, me int) *remote {
	t.Helper()
	want(t, []api.Errno{p.Link(me)}, api.OK)
	r := &remote{t: t, p: p, me: me, epoch: 50}
	r.raw(api.Packet{From: 50, To: p.Node().Epoch})
	if got := r.heard(); len(got) > 0 {
		t.Fatal(got)
	}
	return r
}

func (r *remote) raw(p api.Packet) api.Errno {
	r.t.Helper()
	b, err := frame.PutPacket(p)
	if err != api.OK {
		r.t.Fatal(err)
	}
	return r.p.Receive(r.me, b)
}

// body sends bytes as the next body, acknowledging all that came.
func (r *remote) body(b []byte) api.Errno {
	r.t.Helper()
	r.sent++
	return r.raw(api.Packet{From: r.epoch, To: r.peerEpoch(), Number: r.sent, Ack: r.came, Body: b})
}

// peerEpoch tells the epoch of the peer's link, which is that of its last Link.
func (r *remote) peerEpoch() int { return r.p.Node().Epoch }

func (r *remote) say(m api.Message) api.Errno {
	r.t.Helper()
	b, err := frame.PutMessage(m)
	if err != api.OK {
		r.t.Fatal(err)
	}
	return r.body(b)
}

// item sends an item whole.
func (r *remote) item(number int, b []byte) {
	r.t.Helper()
	l, err := chunk.Cut(number, b)
	if err != api.OK {
		r.t.Fatal(err)
	}
	for _, m := range l {
		want(r.t, []api.Errno{r.say(m)}, api.OK)
	}
}

// heard tells the new messages that go out now.
func (r *remote) heard() []api.Message {
	r.t.Helper()
	var got []api.Message
	for _, raw := range out(r.t, r.p, r.me) {
		p, fault := frame.GetPacket(raw)
		if fault.Err != api.OK {
			r.t.Fatal(fault)
		}
		if p.Number == r.came+1 {
			r.came++
			m, fault := frame.GetMessage(p.Body)
			if fault.Err != api.OK {
				r.t.Fatal(fault)
			}
			got = append(got, m)
		}
	}
	return got
}

func (r *remote) hears(l ...api.Message) {
	r.t.Helper()
	got := r.heard()
	if !slices.EqualFunc(got, l, func(x, y api.Message) bool {
		return x.Kind == y.Kind && x.Item == y.Item && x.Size == y.Size && x.At == y.At && bytes.Equal(x.B, y.B)
	}) {
		r.t.Error(got, l)
	}
}

func bytesOf(t *testing.T, e api.Event) []byte {
	t.Helper()
	b, err := event.Bytes(e)
	if err != api.OK {
		t.Fatal(err)
	}
	return b
}

func gotOf(item int) api.Message  { return api.Message{Kind: api.MessageGot, Item: item} }
func fullOf(item int) api.Message { return api.Message{Kind: api.MessageFull, Item: item} }

// P26.7: what parts of items do.
func TestParts(t *testing.T) {
	p := open(t, newDisk(t, 100000), nil, 3, api.KindGateway)
	r := meet(t, p, 9)
	e := make1(of(5, 1), "f", file(make([]byte, 500)...))
	r.item(1, bytesOf(t, e))
	if n, m := p.Used(); n != event.Size(e) || m != 1 {
		t.Error(n, m)
	}
	r.hears()
	r.item(2, make([]byte, 5)) // not an event: it is let go
	r.hears()
	want(t, []api.Errno{r.body([]byte{1, 2, 3}), r.body(nil), p.Receive(9, []byte("no packet")), p.Receive(8, nil)}, api.OK, api.OK, api.OK, api.ErrMissing)
	r.item(3, bytesOf(t, e)) // it waits already: this item is owed, too
	r.hears()
	want(t, []api.Errno{p.Absorb()}, api.OK)
	r.hears(gotOf(1), gotOf(3))
	if s := p.Node().Store; !sameEvents(s, []api.Event{e}) || !slices.Equal(known(p, 9), []api.Span{span(5, 1, 1)}) {
		t.Error(s)
	}
	// what is too big for the box
	want(t, []api.Errno{r.say(api.Message{Kind: api.MessagePart, Item: 4, Size: 1001, At: 0, B: []byte{1}}), r.say(api.Message{Kind: api.MessagePart, Item: 4, Size: 1001, At: 1, B: []byte{1}})}, api.OK, api.OK)
	r.hears(fullOf(4))
	// what has no room in the spool
	big := func(seq int) api.Event { return make1(of(5, seq), "g", file(make([]byte, 600)...)) }
	r.item(5, bytesOf(t, big(2)))
	r.item(6, bytesOf(t, big(3)))
	r.hears(fullOf(6))
	want(t, []api.Errno{p.Absorb(), p.Absorb()}, api.OK, api.ErrMissing)
	r.hears(gotOf(5))
	r.item(7, bytesOf(t, make1(of(3, 1), "g", dir))) // of this node's own number: it is not kept, but answered
	want(t, []api.Errno{p.Absorb()}, api.OK)
	r.hears(gotOf(7))
	if n := p.Node(); n.Seq != 0 || len(n.Store) != 2 {
		t.Error(n)
	}
}

// P26.7, P26.8: an item goes out, piece by piece, till it is answered; then the next one does.
func TestItems(t *testing.T) {
	p := open(t, newDisk(t, 100000), nil, 1, api.KindRoot)
	big := file(make([]byte, 900)...)
	want(t, []api.Errno{p.Resolve("b", big), p.Resolve("a", big)}, api.OK, api.OK)
	r := meet0(t, p, 9)
	s := p.Node().Store
	first, _ := chunk.Cut(1, bytesOf(t, s[1]))
	r.raw(api.Packet{From: 50, To: p.Node().Epoch})
	r.hears(first...)
	r.hears()
	want(t, []api.Errno{r.say(gotOf(2)), r.say(fullOf(2))}, api.OK, api.OK)
	r.hears()
	for range 5 { // what is said of an item that does not go out is nothing
		p.Tick()
	}
	if len(known(p, 9)) > 0 || len(r.heard()) > 0 {
		t.Error(known(p, 9))
	}
	want(t, []api.Errno{r.say(fullOf(1)), p.Tick(), p.Tick(), p.Tick()}, api.OK, api.OK, api.OK, api.OK)
	r.hears()
	want(t, []api.Errno{r.say(gotOf(1)), p.Tick()}, api.OK, api.OK)
	again, _ := chunk.Cut(2, bytesOf(t, s[1]))
	r.hears(again...)
	want(t, []api.Errno{r.say(gotOf(2))}, api.OK)
	if !slices.Equal(known(p, 9), []api.Span{span(1, 1, 1)}) {
		t.Error(known(p, 9))
	}
	second, _ := chunk.Cut(3, bytesOf(t, s[0]))
	r.hears(second...)
	want(t, []api.Errno{r.say(gotOf(3))}, api.OK)
	r.hears()
	if !slices.Equal(known(p, 9), []api.Span{span(1, 1, 2)}) {
		t.Error(known(p, 9))
	}
}

// meet0 links a peer to a node that is done by hand, and that it has not heard of yet.
func meet0(t *testing.T, p *peer.Peer, me int) *remote {
	t.Helper()
	want(t, []api.Errno{p.Link(me)}, api.OK)
	r := &remote{t: t, p: p, me: me, epoch: 50}
	r.hears()
	return r
}

// P26.8: replies go ahead of pieces; no more than eight wait.
func TestWindow(t *testing.T) {
	p, err := peer.Open(newDisk(t, 100000), nil, 1, api.KindRoot, 10000)
	if err != api.OK {
		t.Fatal(err)
	}
	deep := make1(of(7, 1), "w", file(make([]byte, 1000)...))
	for i := range 200 {
		deep.Past = append(deep.Past, span(8, 2*i+1, 2*i+1))
	}
	r := meet(t, p, 9)
	r.item(1, bytesOf(t, deep))
	want(t, []api.Errno{p.Absorb()}, api.OK)
	r.hears(gotOf(1))
	want(t, []api.Errno{p.Link(4)}, api.OK)
	x := &remote{t: t, p: p, me: 4, epoch: 50}
	x.raw(api.Packet{From: 50, To: p.Node().Epoch})
	pieces, _ := chunk.Cut(1, bytesOf(t, deep))
	if len(pieces) < 12 {
		t.Fatal(len(pieces))
	}
	x.hears(pieces[:8]...)
	x.hears()
	x.came = 0
	x.item(5, bytesOf(t, make1(of(7, 2), "v", dir)))
	want(t, []api.Errno{p.Absorb()}, api.OK)
	x.came = 8
	x.hears()
	x.raw(api.Packet{From: 50, To: p.Node().Epoch, Ack: 3})
	x.hears(gotOf(5), pieces[8], pieces[9])
	x.raw(api.Packet{From: 50, To: p.Node().Epoch, Ack: 11})
	x.hears(pieces[10:]...)
}

// P26.7: when the other end has a new epoch, all that was begun is let go, and begun anew.
func TestTurn(t *testing.T) {
	p := open(t, newDisk(t, 100000), nil, 1, api.KindRoot)
	want(t, []api.Errno{p.Resolve("a", file(make([]byte, 300)...))}, api.OK)
	r := meet0(t, p, 9)
	pieces := func(item int) []api.Message {
		l, _ := chunk.Cut(item, bytesOf(t, p.Node().Store[0]))
		return l
	}
	r.raw(api.Packet{From: 50, To: p.Node().Epoch})
	r.hears(pieces(1)...)
	e := make1(of(5, 1), "f", file(make([]byte, 300)...))
	r.item(1, bytesOf(t, e))
	half, _ := chunk.Cut(2, bytesOf(t, e))
	want(t, []api.Errno{r.say(half[0]), r.say(fullOf(1))}, api.OK, api.OK)
	r.epoch, r.sent, r.came = 60, 0, 0
	want(t, []api.Errno{r.say(half[1])}, api.OK) // the box dropped what came
	r.hears(pieces(2)...)                        // it does not wait any more
	if n, m := p.Used(); n == 0 || m != 1 {
		t.Error(n, m)
	}
	want(t, []api.Errno{p.Absorb()}, api.OK)
	r.hears() // nothing is owed any more
	if len(known(p, 9)) > 0 || len(p.Node().Store) != 2 {
		t.Error(known(p, 9))
	}
	want(t, []api.Errno{r.say(gotOf(2))}, api.OK)
	if !slices.Equal(known(p, 9), []api.Span{span(1, 1, 1)}) {
		t.Error(known(p, 9))
	}
}

// P26.7: an item that was on its way when the other end turned goes out anew, as another item.
func TestTurnWhileOut(t *testing.T) {
	p := open(t, newDisk(t, 100000), nil, 1, api.KindRoot)
	want(t, []api.Errno{p.Resolve("a", file(make([]byte, 300)...))}, api.OK)
	r := meet0(t, p, 9)
	for item := 1; item < 4; item++ {
		pieces, _ := chunk.Cut(item, bytesOf(t, p.Node().Store[0]))
		r.epoch, r.sent, r.came = 50+item, 0, 0
		r.raw(api.Packet{From: r.epoch, To: p.Node().Epoch})
		r.hears(pieces...)
		r.hears()
	}
	want(t, []api.Errno{r.say(gotOf(2)), r.say(gotOf(3))}, api.OK, api.OK)
	if !slices.Equal(known(p, 9), []api.Span{span(1, 1, 1)}) {
		t.Error(known(p, 9))
	}
}

// P26.7: an error of what was recorded is told, and the rest is passed over.
func TestGotRefused(t *testing.T) {
	d := newDisk(t, 100000)
	p := open(t, d, nil, 1, api.KindRoot)
	want(t, []api.Errno{p.Resolve("a", dir)}, api.OK)
	r := meet0(t, p, 9)
	r.raw(api.Packet{From: 50, To: p.Node().Epoch})
	r.hears(func() []api.Message { l, _ := chunk.Cut(1, bytesOf(t, p.Node().Store[0])); return l }()...)
	d.Fuse(0)
	want(t, []api.Errno{r.say(gotOf(1))}, api.ErrBroken)
	raw, err := p.Out(9)
	want(t, []api.Errno{err, p.Tick(), p.Link(5), p.Unlink(9), p.Scan(), p.Absorb(), p.Install(), p.Report(-1), p.Resolve("F", dir), p.Receive(77, nil)}, slices.Repeat([]api.Errno{api.ErrBroken}, 10)...)
	if len(raw) > 0 || len(p.Node().Store) != 1 || len(known(p, 9)) > 0 {
		t.Error(p.Node())
	}
}

// laptop is a node with its disk, its user and its peer, which may be none.
type laptop struct {
	d *disk.Disk
	f *vfs.FS
	p *peer.Peer
}

// P26.9: wherever a disk goes out, and whatever is left, a node is as behind the last call that answered OK, or further.
func TestCrashes(t *testing.T) {
	rnd := rand.New(rand.NewSource(1))
	crashes := 0
	for range 60 {
		var all [3]*laptop
		kinds := []int{api.KindRoot, api.KindLaptop, api.KindLaptop}
		start := func(i int) {
			all[i].p = open(t, all[i].d, all[i].f, i+1, kinds[i])
		}
		for i := range all {
			all[i] = &laptop{d: newDisk(t, 1000000), f: vfs.New()}
			start(i)
		}
		for _, x := range []struct{ i, n int }{{0, 2}, {0, 3}, {1, 1}, {2, 1}} {
			want(t, []api.Errno{all[x.i].p.Link(x.n)}, api.OK)
		}
		for step := range 150 {
			i := rnd.Intn(3)
			x := all[i]
			was := x.p.Node()
			var err api.Errno
			switch rnd.Intn(9) {
			case 0:
				x.f.Write(string(rune('a'+rnd.Intn(3))), 0, []byte{byte(step)})
				err = x.p.Scan()
			case 1:
				err = x.p.Install()
			case 2, 3:
				err = x.p.Absorb()
			case 4:
				err = x.p.Tick()
			case 5, 6, 7:
				n := []int{2 + rnd.Intn(2), 1, 1}[i]
				var raw [][]byte
				if raw, err = x.p.Out(n); err == api.OK {
					for _, b := range raw {
						if e := all[n-1].p.Receive(i+1, b); e == api.ErrBroken {
							crash(t, rnd, all[n-1], func() { start(n - 1) }, nil)
							crashes++
						}
					}
				}
			case 8:
				x.d.Fuse(rnd.Intn(8))
			}
			if err == api.ErrBroken {
				crash(t, rnd, x, func() { start(i) }, &was)
				crashes++
			}
		}
		for i, x := range all { // then all is well: each comes to have all
			x.d.Crash(nil)
			start(i)
		}
		for range 60 {
			for _, n := range []int{1, 2} {
				hand(t, all[0].p, all[n].p, 2)
			}
			for _, x := range all {
				for range 4 {
					x.p.Tick()
				}
				for x.p.Absorb() == api.OK {
				}
			}
		}
		s := all[0].p.Node().Store
		for _, x := range all[1:] {
			if n := x.p.Node(); !sameEvents(n.Store, s) {
				t.Fatal(n.Store, s)
			}
		}
	}
	if crashes < 60 {
		t.Error("too few:", crashes)
	}
}

// crash lets a disk crash, and looks at what the next peer has against what the last one had.
func crash(t *testing.T, rnd *rand.Rand, x *laptop, start func(), was *api.Node) {
	t.Helper()
	had := x.p.Node()
	if was != nil && (had.Seq < was.Seq || !follows(had.Store, was.Store)) {
		t.Fatal(was, had)
	}
	x.d.Crash([]int{rnd.Intn(100), rnd.Intn(100), rnd.Intn(100)})
	start()
	n := x.p.Node()
	if n.Seq != had.Seq && n.Seq != had.Seq+1 || n.Epoch <= had.Epoch || !follows(n.Store, had.Store) {
		t.Fatal(had, n)
	}
	for _, e := range n.Store {
		if e.Dot.Node == n.Number && e.Dot.Seq > n.Seq {
			t.Fatal(n)
		}
	}
}

// follows tells whether all that one store has is in another one, or followed there.
func follows(now, was []api.Event) bool {
	joined, err := store.Join(now, was)
	return err == api.OK && sameEvents(joined, now)
}

// P26.10: what waits never takes more than the quota.
func TestQuota(t *testing.T) {
	p, err := peer.Open(newDisk(t, 100000), nil, 3, api.KindGateway, 100)
	if err != api.OK {
		t.Fatal(err)
	}
	r := meet(t, p, 9)
	answers := map[int]int{}
	for i := range 150 {
		r.item(i+1, bytesOf(t, make1(of(5, i+1), "f", file(make([]byte, i%70)...))))
		if n, m := p.Used(); n > 100 || m > 100 {
			t.Fatal(n, m)
		}
		if i%7 == 0 {
			p.Absorb()
		}
		for _, m := range r.heard() {
			answers[m.Kind]++
			if m.Kind == api.MessageGot && !slices.ContainsFunc(p.Node().Store, func(e api.Event) bool { return e.Dot == of(5, m.Item) }) {
				t.Fatal(m)
			}
		}
	}
	if answers[api.MessageFull] < 50 || answers[api.MessageGot] < 10 {
		t.Error(answers)
	}
	wide, err := peer.Open(newDisk(t, 1000000), nil, 3, api.KindGateway, 60000)
	if err != api.OK {
		t.Fatal(err)
	}
	r = meet(t, wide, 9)
	for i := range 101 {
		r.item(i+1, bytesOf(t, make1(of(5, i+1), "f", gone)))
		if i < 100 {
			r.hears()
		} else {
			r.hears(fullOf(101))
		}
	}
	if n, m := wide.Used(); n != 1700 || m != 100 {
		t.Error(n, m)
	}
	many := open(t, newDisk(t, 1000000), nil, 3, api.KindGateway)
	r = meet(t, many, 9)
	for i := range 60 {
		r.item(i+1, bytesOf(t, make1(of(5, i+1), "f", gone)))
		r.heard()
	}
	if n, m := many.Used(); n != 58*17 || m != 58 {
		t.Error(n, m)
	}
}

// P26.11: two peers that are linked come to have all that the other one has, whatever was lost first.
func TestBothComeToHaveAll(t *testing.T) {
	rnd := rand.New(rand.NewSource(2))
	for range 40 {
		fs := []*vfs.FS{vfs.New(), vfs.New()}
		ps := []*peer.Peer{open(t, newDisk(t, 1000000), fs[0], 1, api.KindLaptop), open(t, newDisk(t, 1000000), fs[1], 2, api.KindLaptop)}
		want(t, []api.Errno{ps[0].Link(2), ps[1].Link(1)}, api.OK, api.OK)
		var air [2][][]byte
		for range 150 {
			i := rnd.Intn(2)
			switch rnd.Intn(6) {
			case 0:
				fs[i].Write(string(rune('a'+rnd.Intn(4))), 0, make([]byte, rnd.Intn(500)))
				ps[i].Scan()
			case 1:
				ps[i].Absorb()
			case 2:
				ps[i].Tick()
			case 3, 4:
				air[i] = append(air[i], out(t, ps[i], 2-i)...)
			case 5:
				for range rnd.Intn(6) {
					if l := air[1-i]; len(l) > 0 {
						k := rnd.Intn(len(l))
						b := l[k]
						if rnd.Intn(4) > 0 {
							air[1-i] = slices.Delete(l, k, k+1)
						}
						if rnd.Intn(4) > 0 {
							want(t, []api.Errno{ps[i].Receive(2-i, b)}, api.OK)
						}
					}
				}
			}
		}
		for range 40 {
			for _, p := range ps {
				for range 4 {
					p.Tick()
				}
				for p.Absorb() == api.OK {
				}
			}
			hand(t, ps[0], ps[1], 2)
		}
		x, y := ps[0].Node(), ps[1].Node()
		if !sameEvents(x.Store, y.Store) || x.Seq+y.Seq == 0 {
			t.Fatal(x.Store, y.Store)
		}
	}
}

// What is told is new memory.
func TestMemory(t *testing.T) {
	a, b, f := pair(t)
	e := file(7)
	a.Resolve("f", e)
	e.Bytes[0] = 1
	n := a.Node()
	n.Store[0].Effect.Bytes[0], n.Peers[0].Node = 2, 99
	if again := a.Node(); again.Store[0].Effect.Bytes[0] != 7 || again.Peers[0].Node != 2 {
		t.Error(again)
	}
	for range 3 {
		for _, raw := range out(t, a, 2) {
			b.Receive(1, raw)
			for i := range raw {
				raw[i] = 0
			}
		}
		for _, raw := range out(t, b, 1) {
			a.Receive(2, raw)
		}
	}
	b.Absorb()
	b.Install()
	if !effect.Same(b.Node().Store[0].Effect, file(7)) || len(f.Tree()) != 1 {
		t.Error(b.Node())
	}
}
