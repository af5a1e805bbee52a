package model

import (
	"slices"

	"tributary/api"
	"tributary/dot"
	"tributary/fresh"
	"tributary/ledger"
	"tributary/order"
	"tributary/past"
	"tributary/resolve"
	"tributary/shown"
)

// copied is a copy of a model, which moves are done to.
type copied struct{ model api.Model }

// movers tells how moves are done, by their kinds.
func movers() map[int]func(*copied, api.Move) api.Errno {
	return map[int]func(*copied, api.Move) api.Errno{
		api.MoveEnrol:   (*copied).enrol,
		api.MoveChange:  (*copied).change,
		api.MoveLearn:   (*copied).learn,
		api.MoveShow:    (*copied).show,
		api.MoveReport:  (*copied).report,
		api.MoveResolve: (*copied).resolve,
	}
}

// Do tells the model that a move makes of one.
func Do(m api.Model, x api.Move) (api.Model, api.Errno) {
	does, is := movers()[x.Kind]
	if Check(m) != api.OK || !is || x.Kind != api.MoveEnrol && !has(m, x.Node) {
		return api.Model{}, api.ErrArg
	}
	c := &copied{model: fresh.Model(m)}
	if err := does(c, x); err != api.OK {
		return api.Model{}, err
	}
	return c.model, api.OK
}

func (c *copied) node(x api.Move) *api.Replica { return &c.model.Nodes[x.Node-1] }

// enrol puts a node more.
func (c *copied) enrol(x api.Move) api.Errno {
	if x.N != api.KindGateway && x.N != api.KindLaptop {
		return api.ErrArg
	}
	if len(c.model.Nodes) == api.MaxNodes {
		return api.ErrFull
	}
	c.model.Nodes = append(c.model.Nodes, api.Replica{Kind: x.N})
	return api.OK
}

// next tells a node's next dot.
func (c *copied) next(n int) (api.Dot, api.Errno) {
	d := api.Dot{Node: n}
	for _, e := range c.model.Events {
		if e.Dot.Node == n {
			d.Seq = e.Dot.Seq
		}
	}
	if d.Seq == api.MaxSeq {
		return api.Dot{}, api.ErrRange
	}
	d.Seq++
	return d, api.OK
}

// keep puts an event that a node made, and knows.
func (c *copied) keep(e api.Event) api.Errno {
	n := &c.model.Nodes[e.Dot.Node-1]
	with, err := past.Add(n.Known, e.Dot)
	if err != api.OK {
		return err
	}
	i, _ := slices.BinarySearchFunc(c.model.Events, e.Dot, func(e api.Event, d api.Dot) int { return order.Of(e.Dot, d, dot.Less) })
	n.Known, c.model.Events = with, slices.Insert(c.model.Events, i, e)
	return api.OK
}

// change lets a laptop's user change something.
func (c *copied) change(x api.Move) api.Errno {
	n := c.node(x)
	if n.Kind != api.KindLaptop {
		return api.ErrState
	}
	d, err := c.next(x.Node)
	if err != api.OK {
		return err
	}
	e, l, err := shown.Make(n.Shown, d, x.Path, x.Effect)
	if err != api.OK {
		return err
	}
	n.Shown = l
	return c.keep(e)
}

// learn lets a node know an event.
func (c *copied) learn(x api.Move) api.Errno {
	n := c.node(x)
	if !slices.ContainsFunc(c.model.Events, func(e api.Event) bool { return e.Dot == x.Dot }) {
		return api.ErrMissing
	}
	if past.Has(n.Known, x.Dot) {
		return api.ErrExists
	}
	with, err := past.Add(n.Known, x.Dot)
	n.Known = with
	return err
}

// show lets a laptop show what is next.
func (c *copied) show(x api.Move) api.Errno {
	n := c.node(x)
	if n.Kind != api.KindLaptop {
		return api.ErrState
	}
	s, err := storeOf(c.model, x.Node)
	if err != api.OK {
		return err
	}
	next, ok := shown.Next(n.Shown, s)
	if !ok {
		return api.ErrMissing
	}
	n.Shown, err = shown.Put(n.Shown, next)
	return err
}

// report lets the root report what clashes.
func (c *copied) report(x api.Move) api.Errno {
	if x.Node != root {
		return api.ErrState
	}
	s, err := storeOf(c.model, x.Node)
	if err != api.OK {
		return err
	}
	c.model.Reports, _, err = ledger.Scan(c.model.Reports, s, x.N)
	return err
}

// resolve lets the root make an event of an operator's word.
func (c *copied) resolve(x api.Move) api.Errno {
	if x.Node != root {
		return api.ErrState
	}
	d, err := c.next(x.Node)
	if err != api.OK {
		return err
	}
	s, err := storeOf(c.model, x.Node)
	if err != api.OK {
		return err
	}
	e, err := resolve.Make(s, d, x.Path, x.Effect)
	if err != api.OK {
		return err
	}
	return c.keep(e)
}
