package peer

import (
	"tributary/api"
	"tributary/event"
	"tributary/install"
	"tributary/node"
	"tributary/resolve"
	"tributary/scan"
)

// next tells the next dot of the node.
func (p *Peer) next() api.Dot { return api.Dot{Node: p.node.Number, Seq: p.node.Seq + 1} }

// ofUser tells why nothing can be done for a user.
func (p *Peer) ofUser() api.Errno {
	if err := p.works(); err != api.OK {
		return err
	}
	if p.node.Kind != api.KindLaptop {
		return api.ErrState
	}
	return api.OK
}

// Scan makes an event of a user's change.
func (p *Peer) Scan() api.Errno {
	if err := p.ofUser(); err != api.OK {
		return err
	}
	changes, err := scan.Changes(p.fs, p.node.Shown, nil)
	if err != api.OK {
		return err
	}
	if len(changes) == 0 {
		return api.ErrMissing
	}
	for _, x := range changes {
		made, _, err := scan.Make(p.node.Shown, []api.Change{x}, p.next())
		if err == api.OK && event.Size(made[0]) <= p.quota {
			return p.record(api.Rec{Kind: api.RecOwn, Event: made[0]})
		}
	}
	return api.ErrLong
}

// Install writes what is to be shown next.
func (p *Peer) Install() api.Errno {
	if err := p.ofUser(); err != api.OK {
		return err
	}
	x, ok, err := install.Stage(p.fs, p.node.Shown, p.node.Store)
	if err != api.OK {
		return err
	}
	if !ok {
		return api.ErrMissing
	}
	raw, err := install.Bytes(x)
	if err != api.OK {
		return err
	}
	if err := p.lay(raw); err != api.OK {
		return err
	}
	if err := install.Commit(p.fs, x); err != api.OK {
		p.clear()
		return err
	}
	if err := p.recordShown(x); err != api.OK {
		return err
	}
	return p.clear()
}

// Report reports what clashes.
func (p *Peer) Report(most int) api.Errno {
	if err := p.works(); err != api.OK {
		return err
	}
	return p.record(api.Rec{Kind: api.RecReport, N: most})
}

// Resolve does what an operator says.
func (p *Peer) Resolve(path string, e api.Effect) api.Errno {
	if err := p.works(); err != api.OK {
		return err
	}
	if p.node.Kind != api.KindRoot {
		return api.ErrState
	}
	made, err := resolve.Make(p.node.Store, p.next(), path, e)
	if err != api.OK {
		return err
	}
	if event.Size(made) > p.quota {
		return api.ErrLong
	}
	return p.record(api.Rec{Kind: api.RecOwn, Event: made})
}

// Absorb takes what came into the store.
func (p *Peer) Absorb() api.Errno {
	if err := p.works(); err != api.OK {
		return err
	}
	e, waits := p.spool.First()
	if !waits {
		return api.ErrMissing
	}
	r := api.Rec{Kind: api.RecEvent, Event: e}
	if n, err := node.Apply(p.node, r); err == api.OK {
		if err := p.keep(n, r); err != api.OK {
			return err
		}
	}
	for l := range p.inOrder {
		if err := p.settle(l, e.Dot); err != api.OK {
			return err
		}
	}
	return p.spool.Drop(e.Dot)
}

// settle answers what a link owes of a dot.
func (p *Peer) settle(l *link, d api.Dot) api.Errno {
	for l.owesOf(d) {
		if err := p.record(api.Rec{Kind: api.RecLearn, N: l.to, Dot: d}); err != api.OK && err != api.ErrMissing {
			return err
		}
		l.pay(d)
	}
	return api.OK
}
