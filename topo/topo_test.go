package topo_test

import (
	"math"
	"math/rand"
	"slices"
	"testing"

	"tributary/api"
	"tributary/topo"
)

var (
	root = api.Member{Kind: api.KindRoot}
	none = []api.Member(nil)
)

func gate(up int) api.Member { return api.Member{Kind: api.KindGateway, Up: up} }
func lap(up int) api.Member  { return api.Member{Kind: api.KindLaptop, Up: up} }

func dead(m api.Member) api.Member {
	m.Dead = true
	return m
}

// sample is the chapter's: the root 1, under it the gateways 2 and 3, under 2 the laptop 4.
func sample() []api.Member { return []api.Member{root, gate(1), gate(1), lap(2)} }

// chain is so many nodes, each under the one ahead of it.
func chain(n int) []api.Member {
	t := topo.New()
	for i := 1; i < n; i++ {
		t = append(t, gate(i))
	}
	return t
}

var noTopologies = [][]api.Member{
	nil, chain(201), {gate(0)}, {{Kind: api.KindRoot, Up: 1}}, {dead(root)}, {root, root}, {root, {Kind: api.KindRoot, Up: 1}}, {root, {Up: 1}}, {root, {Kind: 4, Up: 1}}, {root, gate(0)}, {root, gate(3)}, {root, gate(-1)}, {root, gate(math.MaxInt)}, {root, gate(2)}, {root, gate(3), gate(2)}, {root, lap(1), gate(2)}, {root, lap(1), lap(2)}, {root, gate(1), gate(4), gate(5), gate(3)}, {gate(1), root},
}

// P27.1 to P27.4: what may be, and what is told of what may not.
func TestCheck(t *testing.T) {
	if !slices.Equal(topo.New(), []api.Member{root}) {
		t.Error(topo.New())
	}
	for i, x := range [][]api.Member{topo.New(), sample(), chain(200), {root, gate(3), gate(1)}, {root, dead(gate(1)), gate(2), dead(lap(3))}} {
		if topo.Check(x) != api.OK {
			t.Error(i)
		}
	}
	for i, x := range noTopologies {
		e, n, e1 := topo.Enrol(x, api.KindLaptop, 1)
		k, e2 := topo.Kill(x, 2)
		m, e3 := topo.Move(x, 2, 1)
		w, e4 := topo.Way(x, 1)
		for _, err := range []api.Errno{topo.Check(x), e1, e2, e3, e4} {
			if err != api.ErrArg {
				t.Error(i, err)
			}
		}
		if len(e)+len(k)+len(m)+len(w)+n+len(topo.Live(x))+topo.Height(x) > 0 {
			t.Error(i)
		}
	}
}

// P27.2: a node more.
func TestEnrol(t *testing.T) {
	d := []api.Member{root, dead(gate(1)), lap(2), gate(2)}
	for i, x := range []struct {
		t        []api.Member
		kind, up int
		want     []api.Member
		err      api.Errno
	}{
		{sample(), api.KindLaptop, 3, append(sample(), lap(3)), api.OK}, {sample(), api.KindGateway, 1, append(sample(), gate(1)), api.OK}, {d, api.KindLaptop, 4, append(slices.Clone(d), lap(4)), api.OK}, {chain(199), api.KindLaptop, 199, append(chain(199), lap(199)), api.OK},
		{sample(), api.KindLaptop, 4, none, api.ErrLeaf}, {sample(), api.KindRoot, 1, none, api.ErrArg}, {sample(), 0, 4, none, api.ErrArg}, {sample(), 4, 1, none, api.ErrArg}, {sample(), api.KindLaptop, 9, none, api.ErrArg}, {sample(), api.KindLaptop, 0, none, api.ErrArg}, {sample(), api.KindLaptop, math.MinInt, none, api.ErrArg},
		{d, api.KindLaptop, 2, none, api.ErrDead}, {[]api.Member{root, dead(lap(1))}, api.KindLaptop, 2, none, api.ErrLeaf}, {chain(200), api.KindLaptop, 1, none, api.ErrFull}, {append(chain(199), dead(gate(1))), api.KindLaptop, 200, none, api.ErrDead}, {append(chain(199), lap(1)), api.KindLaptop, 200, none, api.ErrLeaf},
	} {
		got, n, err := topo.Enrol(x.t, x.kind, x.up)
		if err != x.err || !slices.Equal(got, x.want) || n != len(x.want) {
			t.Error(i, n, err)
		}
	}
}

// P27.3: who dies.
func TestKill(t *testing.T) {
	for i, x := range []struct {
		t    []api.Member
		n    int
		want []api.Member
		err  api.Errno
	}{
		{sample(), 2, []api.Member{root, dead(gate(1)), gate(1), lap(2)}, api.OK}, {sample(), 4, []api.Member{root, gate(1), gate(1), dead(lap(2))}, api.OK}, {sample(), 1, none, api.ErrArg}, {sample(), 0, none, api.ErrArg}, {sample(), 5, none, api.ErrArg}, {sample(), math.MaxInt, none, api.ErrArg}, {[]api.Member{root, dead(gate(1))}, 2, none, api.ErrDead},
	} {
		if got, err := topo.Kill(x.t, x.n); err != x.err || !slices.Equal(got, x.want) {
			t.Error(i, got, err)
		}
	}
}

// P27.3: who moves.
func TestMove(t *testing.T) {
	five := append(sample(), gate(2))
	d := []api.Member{root, gate(1), dead(gate(1)), lap(2), dead(lap(1)), gate(3)}
	for i, x := range []struct {
		t     []api.Member
		n, up int
		want  []api.Member
		err   api.Errno
	}{
		{sample(), 4, 3, []api.Member{root, gate(1), gate(1), lap(3)}, api.OK}, {sample(), 2, 3, []api.Member{root, gate(3), gate(1), lap(2)}, api.OK}, {sample(), 4, 2, sample(), api.OK}, {five, 5, 1, append(sample(), gate(1)), api.OK},
		{sample(), 2, 2, none, api.ErrLoop}, {sample(), 3, 4, none, api.ErrLeaf}, {sample(), 1, 2, none, api.ErrArg}, {five, 2, 5, none, api.ErrLoop}, {chain(200), 2, 200, none, api.ErrLoop}, {sample(), 4, 4, none, api.ErrLeaf}, {sample(), 2, 4, none, api.ErrLeaf},
		{sample(), 9, 1, none, api.ErrArg}, {sample(), 2, 9, none, api.ErrArg}, {sample(), 0, 1, none, api.ErrArg}, {sample(), 2, -1, none, api.ErrArg}, {sample(), 1, 9, none, api.ErrArg},
		{d, 4, 3, none, api.ErrDead}, {d, 3, 1, none, api.ErrDead}, {d, 2, 5, none, api.ErrDead}, {d, 3, 3, none, api.ErrDead}, {d, 3, 6, none, api.ErrDead}, {d, 1, 3, none, api.ErrArg}, {d, 6, 2, []api.Member{root, gate(1), dead(gate(1)), lap(2), dead(lap(1)), gate(2)}, api.OK}, {d, 4, 6, []api.Member{root, gate(1), dead(gate(1)), lap(6), dead(lap(1)), gate(3)}, api.OK},
	} {
		if got, err := topo.Move(x.t, x.n, x.up); err != x.err || !slices.Equal(got, x.want) {
			t.Error(i, got, err)
		}
	}
}

// P27.4: who is above, right under, live, and how far down that goes.
func TestAsked(t *testing.T) {
	for n, want := range map[int][]int{4: {4, 2, 1}, 3: {3, 1}, 1: {1}} {
		if got, err := topo.Way(sample(), n); err != api.OK || !slices.Equal(got, want) {
			t.Error(n, got, err)
		}
	}
	for _, n := range []int{0, 5, -1, math.MaxInt} {
		if got, err := topo.Way(sample(), n); err != api.ErrArg || len(got) > 0 {
			t.Error(n, got, err)
		}
	}
	if got, err := topo.Way(chain(200), 200); err != api.OK || len(got) != 200 || got[199] != 1 {
		t.Error(got, err)
	}
	odd := []api.Member{{Up: 7}, gate(7), dead(lap(0)), gate(7), gate(-2)}
	for n, want := range map[int][]int{7: {1, 2, 4}, 0: {3}, -2: {5}, 1: nil} {
		if got := topo.Under(odd, n); !slices.Equal(got, want) {
			t.Error(n, got)
		}
	}
	if got := topo.Under(sample(), 1); !slices.Equal(got, []int{2, 3}) || len(topo.Under(nil, 0)) > 0 {
		t.Error(got)
	}
	for i, x := range []struct {
		t      []api.Member
		live   []int
		height int
	}{
		{sample(), []int{1, 2, 3, 4}, 2}, {[]api.Member{root, dead(gate(1)), gate(1), lap(2)}, []int{1, 3}, 1}, {[]api.Member{root, dead(gate(1)), gate(1), lap(3)}, []int{1, 3, 4}, 2}, {topo.New(), []int{1}, 0}, {[]api.Member{root, dead(gate(1)), gate(2), gate(3), lap(4)}, []int{1}, 0}, {[]api.Member{root, gate(3), gate(1), dead(lap(2))}, []int{1, 2, 3}, 2},
	} {
		if got := topo.Live(x.t); !slices.Equal(got, x.live) || topo.Height(x.t) != x.height {
			t.Error(i, got, topo.Height(x.t))
		}
	}
	if topo.Height(chain(200)) != 199 {
		t.Error(topo.Height(chain(200)))
	}
}

// P27.5: what is told may be, what is refused changes nothing, numbers stay; a node is live just if no one on its way is dead.
func TestWhatFollows(t *testing.T) {
	rnd := rand.New(rand.NewSource(1))
	done := map[int]int{}
	for range 60 {
		x := topo.New()
		for range 60 {
			was := slices.Clone(x)
			n, up := rnd.Intn(len(x)+2), rnd.Intn(len(x)+2)
			var out []api.Member
			var err api.Errno
			what := rnd.Intn(8)
			switch {
			case what < 3:
				var number int
				out, number, err = topo.Enrol(x, rnd.Intn(5), up)
				if err == api.OK && (number != len(out) || !slices.Equal(out[:number-1], x)) {
					t.Fatal(out, number)
				}
			case what == 3:
				out, err = topo.Kill(x, n)
			default:
				out, err = topo.Move(x, n, up)
			}
			if !slices.Equal(was, x) || err == api.OK && topo.Check(out) != api.OK || err != api.OK && len(out) > 0 {
				t.Fatal(was, x, out, err)
			}
			if err != api.OK {
				continue
			}
			done[what]++
			x = out
			live := topo.Live(x)
			for i := range x {
				w, err := topo.Way(x, i+1)
				if err != api.OK || w[0] != i+1 || w[len(w)-1] != 1 {
					t.Fatal(x, w, err)
				}
				if slices.Contains(live, i+1) == slices.ContainsFunc(w, func(n int) bool { return x[n-1].Dead }) {
					t.Fatal(x, live, w)
				}
			}
		}
	}
	if done[3] < 50 || done[0] < 50 || done[5] < 10 {
		t.Error("too few:", done)
	}
}

// What is told is new memory.
func TestMemory(t *testing.T) {
	in := append(sample(), gate(9))[:4]
	a, _, _ := topo.Enrol(in, api.KindLaptop, 1)
	b, _ := topo.Kill(in, 2)
	c, _ := topo.Move(in, 4, 3)
	for _, l := range [][]api.Member{a, b, c} {
		l[0].Up = 5
		_ = append(l, lap(8))
	}
	topo.New()[0].Up = 7
	if !slices.Equal(in, sample()) || in[:5][4] != gate(9) || topo.New()[0].Up != 0 {
		t.Error(in[:5])
	}
}
