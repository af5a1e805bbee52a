package fresh_test

import (
	"testing"

	"tributary/api"
	"tributary/fresh"
)

// What is made is as it was, and shares nothing with that.
func TestNew(t *testing.T) {
	span := func() []api.Span { return append([]api.Span{{Node: 1, From: 1, To: 1}}, api.Span{Node: 9})[:1] }
	file := func() api.Effect {
		return api.Effect{Kind: api.KindFile, Mode: 3, Bytes: append([]byte{7}, 9)[:1]}
	}
	n := api.Node{Number: 1, Kind: 2, Seq: 3, Epoch: 4,
		Store:   []api.Event{{Dot: api.Dot{Node: 1, Seq: 1}, Path: "f", Effect: file(), Past: span()}},
		Shown:   []api.Shown{{Path: "f", Effect: file(), Past: span()}},
		Peers:   []api.Archive{{Node: 5, Known: span()}},
		Reports: []api.Report{{Number: 1}},
	}
	m := api.Model{Events: n.Store, Nodes: []api.Replica{{Kind: 3, Known: span(), Shown: n.Shown}}, Reports: n.Reports}
	x, y := fresh.Node(n), fresh.Model(m)
	if x.Number != 1 || x.Kind != 2 || x.Seq != 3 || x.Epoch != 4 || x.Peers[0].Node != 5 || x.Store[0].Dot.Seq != 1 || y.Nodes[0].Kind != 3 {
		t.Error(x, y)
	}
	_, _ = append(x.Store[0].Past, api.Span{}), append(x.Store[0].Effect.Bytes, 1)
	x.Store[0].Path, x.Store[0].Effect.Bytes[0], x.Store[0].Past[0].To = "x", 1, 8
	x.Shown[0].Path, x.Shown[0].Effect.Bytes[0], x.Shown[0].Past[0].To = "x", 1, 8
	x.Peers[0].Node, x.Peers[0].Known[0].To, x.Reports[0].Number = 8, 8, 8
	y.Events[0].Effect.Bytes[0], y.Nodes[0].Known[0].To, y.Nodes[0].Shown[0].Past[0].To, y.Reports[0].Number = 2, 7, 7, 7
	for _, b := range [][]byte{n.Store[0].Effect.Bytes, n.Shown[0].Effect.Bytes} {
		if b[0] != 7 || b[:2][1] != 9 {
			t.Error(b)
		}
	}
	for _, l := range [][]api.Span{n.Store[0].Past, n.Shown[0].Past, n.Peers[0].Known, m.Nodes[0].Known} {
		if l[0].To != 1 || l[:2][1].Node != 9 {
			t.Error(l)
		}
	}
	if n.Store[0].Path != "f" || n.Shown[0].Path != "f" || n.Peers[0].Node != 5 || n.Reports[0].Number != 1 {
		t.Error(n)
	}
	air := []api.Air{{From: 1, To: 2, Raw: []byte{5}}}
	fresh.Air(air)[0].Raw[0] = 6
	t1 := []api.Entry{{Path: "f", Effect: file()}}
	fresh.Entries(t1)[0].Effect.Bytes[0] = 6
	nodes := fresh.Nodes([]api.Node{n})
	nodes[0].Store[0].Effect.Bytes[0] = 6
	if air[0].Raw[0] != 5 || t1[0].Effect.Bytes[0] != 7 || n.Store[0].Effect.Bytes[0] != 7 || len(fresh.Events(nil)) > 0 {
		t.Error(air, t1)
	}
}
