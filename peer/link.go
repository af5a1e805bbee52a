package peer

import (
	"maps"
	"slices"

	"tributary/api"
	"tributary/chunk"
	"tributary/edge"
	"tributary/event"
	"tributary/frame"
	"tributary/node"
	"tributary/session"
)

// owed is an item that came, and the dot of its event, which waits in the spool.
type owed struct {
	item int
	dot  api.Dot
}

// link is what goes on over an edge.
type link struct {
	to      int // the node at its other end
	session *session.Session
	box     *chunk.Box
	item    int // the item that goes out; 0: none
	dot     api.Dot
	pieces  []api.Message
	last    int // the last item that went out
	wait    int
	replies []api.Message
	owes    []owed
}

// freshLink begins a link of the node's epoch.
func (p *Peer) freshLink(to int) (*link, api.Errno) {
	s, err := session.New(p.node.Epoch)
	if err != api.OK {
		return nil, err
	}
	box, err := chunk.New(p.quota)
	if err != api.OK {
		return nil, err
	}
	return &link{to: to, session: s, box: box}, api.OK
}

// turn lets all go that was begun with the other end as it was ahead of its new epoch.
func (l *link) turn() {
	l.box.Drop()
	l.stop()
	l.wait, l.replies, l.owes = 0, nil, nil
}

// stop lets no item go out.
func (l *link) stop() { l.item, l.dot, l.pieces = 0, api.Dot{}, nil }

// reply lets an answer about an item go out.
func (l *link) reply(kind, item int) {
	l.replies = append(l.replies, api.Message{Kind: kind, Item: item})
}

func (l *link) owing(d api.Dot) int {
	return slices.IndexFunc(l.owes, func(x owed) bool { return x.dot == d })
}

func (l *link) owesOf(d api.Dot) bool { return l.owing(d) >= 0 }

// pay answers the first item that is owed of a dot.
func (l *link) pay(d api.Dot) {
	i := l.owing(d)
	l.reply(api.MessageGot, l.owes[i].item)
	l.owes = slices.Delete(l.owes, i, i+1)
}

// inOrder hands on the links, by rising numbers of the nodes at their other ends.
func (p *Peer) inOrder(yield func(l *link) bool) {
	for _, n := range slices.Sorted(maps.Keys(p.links)) {
		if !yield(p.links[n]) {
			return
		}
	}
}

// Link begins an edge to another node.
func (p *Peer) Link(n int) api.Errno {
	if err := p.works(); err != api.OK {
		return err
	}
	if err := p.record(api.Rec{Kind: api.RecPeer, N: n}); err != api.OK {
		return err
	}
	if err := p.record(api.Rec{Kind: api.RecEpoch, N: p.node.Epoch + 1}); err != api.OK {
		return err
	}
	l, err := p.freshLink(n)
	if err == api.OK {
		p.links[n] = l
	}
	return err
}

// linkTo tells a link, or why there is none.
func (p *Peer) linkTo(n int) (*link, api.Errno) {
	if err := p.works(); err != api.OK {
		return nil, err
	}
	l, there := p.links[n]
	if !there {
		return nil, api.ErrMissing
	}
	return l, api.OK
}

// Unlink ends an edge.
func (p *Peer) Unlink(n int) api.Errno {
	if _, err := p.linkTo(n); err != api.OK {
		return err
	}
	if err := p.record(api.Rec{Kind: api.RecDrop, N: n}); err != api.OK {
		return err
	}
	delete(p.links, n)
	return api.OK
}

// Tick lets a tick go by.
func (p *Peer) Tick() api.Errno {
	if err := p.works(); err != api.OK {
		return err
	}
	for l := range p.inOrder {
		l.session.Tick()
		l.wait = max(l.wait-1, 0)
	}
	return api.OK
}

// doers tells what messages do, by their kinds.
func doers() map[int]func(*Peer, *link, api.Message) api.Errno {
	return map[int]func(*Peer, *link, api.Message) api.Errno{
		api.MessagePart: (*Peer).part,
		api.MessageFull: (*Peer).full,
		api.MessageGot:  (*Peer).got,
	}
}

// Receive takes in what came over an edge.
func (p *Peer) Receive(n int, raw []byte) api.Errno {
	l, err := p.linkTo(n)
	if err != api.OK {
		return err
	}
	packet, fault := frame.GetPacket(raw)
	if fault.Err != api.OK {
		return api.OK
	}
	turns := l.session.Turns()
	l.session.Receive(packet)
	if l.session.Turns() != turns {
		l.turn()
	}
	does := doers()
	for _, body := range l.session.Take() {
		m, fault := frame.GetMessage(body)
		if fault.Err != api.OK {
			continue
		}
		if err := does[m.Kind](p, l, m); err != api.OK {
			return err
		}
	}
	return api.OK
}

// part puts a piece to the others; an event that is whole waits from then on.
func (p *Peer) part(l *link, m api.Message) api.Errno {
	whole, err := l.box.Put(m)
	if err == api.ErrFull {
		l.reply(api.MessageFull, m.Item)
	}
	e, fault := event.Read(whole)
	if err != api.OK || fault.Err != api.OK {
		return api.OK
	}
	switch p.spool.Put(e) {
	case api.OK, api.ErrExists:
		l.owes = append(l.owes, owed{item: m.Item, dot: e.Dot})
	default:
		l.reply(api.MessageFull, m.Item)
	}
	return api.OK
}

// full lets an item that has no room at the other end go out again later.
func (p *Peer) full(l *link, m api.Message) api.Errno {
	if l.item == m.Item {
		l.stop()
		l.wait = api.Resend
	}
	return api.OK
}

// got notes that an item is kept at the other end.
func (p *Peer) got(l *link, m api.Message) api.Errno {
	if l.item != m.Item {
		return api.OK
	}
	d := l.dot
	l.stop()
	return p.record(api.Rec{Kind: api.RecLearn, N: l.to, Dot: d})
}

// Out tells what goes out over an edge.
func (p *Peer) Out(n int) ([][]byte, api.Errno) {
	l, err := p.linkTo(n)
	if err != api.OK {
		return nil, err
	}
	for l.session.Peer() != 0 && l.session.Waiting() < api.Window {
		m, some := p.nextMessage(l)
		if !some {
			break
		}
		body, err := frame.PutMessage(m)
		if err != api.OK {
			return nil, err
		}
		if err := l.session.Send(body); err != api.OK {
			return nil, err
		}
	}
	var out [][]byte
	for _, x := range l.session.Out() {
		raw, err := frame.PutPacket(x)
		if err != api.OK {
			return nil, err
		}
		out = append(out, raw)
	}
	return out, api.OK
}

// nextMessage takes what is to be sent next over a link: a reply, a piece, or the first piece of the next item.
func (p *Peer) nextMessage(l *link) (api.Message, bool) {
	if len(l.replies) > 0 {
		m := l.replies[0]
		l.replies = l.replies[1:]
		return m, true
	}
	if len(l.pieces) == 0 && !p.beginItem(l) {
		return api.Message{}, false
	}
	m := l.pieces[0]
	l.pieces = l.pieces[1:]
	return m, true
}

// beginItem lets the next event begin to go out, if none goes out, and the link does not wait.
func (p *Peer) beginItem(l *link) bool {
	if l.item != 0 || l.wait > 0 {
		return false
	}
	a, _ := node.Peer(p.node, l.to)
	e, some := edge.Next(p.node.Store, a, nil)
	if !some {
		return false
	}
	raw, _ := event.Bytes(e)
	pieces, err := chunk.Cut(l.last+1, raw)
	if err != api.OK {
		return false
	}
	l.last++
	l.item, l.dot, l.pieces = l.last, e.Dot, pieces
	return true
}
