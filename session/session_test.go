package session_test

import (
	"bytes"
	"math"
	"math/rand"
	"slices"
	"strings"
	"testing"

	"tributary/api"
	"tributary/session"
)

const top = 1 << 40

func begin(t *testing.T, epoch int) *session.Session {
	t.Helper()
	s, err := session.New(epoch)
	if err != api.OK {
		t.Fatal(err)
	}
	return s
}

func packet(from, to, number, ack int, body string) api.Packet {
	return api.Packet{From: from, To: to, Number: number, Ack: ack, Body: []byte(body)}
}

func same(a, b []api.Packet) bool {
	return slices.EqualFunc(a, b, func(a, b api.Packet) bool {
		return a.From == b.From && a.To == b.To && a.Number == b.Number && a.Ack == b.Ack && bytes.Equal(a.Body, b.Body)
	})
}

func out(t *testing.T, s *session.Session, want ...api.Packet) {
	t.Helper()
	if got := s.Out(); !same(got, want) {
		t.Errorf("%v, not %v", got, want)
	}
}

func take(t *testing.T, s *session.Session, want ...string) {
	t.Helper()
	var got []string
	for _, b := range s.Take() {
		got = append(got, string(b))
	}
	if !slices.Equal(got, want) {
		t.Errorf("%q, not %q", got, want)
	}
}

func send(t *testing.T, s *session.Session, body string, want api.Errno) {
	t.Helper()
	if err := s.Send([]byte(body)); err != want {
		t.Error(body, err)
	}
}

// is fails, if the session's numbers are not these.
func is(t *testing.T, s *session.Session, peer, waiting, turns int) {
	t.Helper()
	if s.Peer() != peer || s.Waiting() != waiting || s.Turns() != turns {
		t.Error(s.Peer(), s.Waiting(), s.Turns())
	}
}

// met tells a session of the epoch 5 that knows the other end's to be 7, and owes nothing.
func met(t *testing.T) *session.Session {
	t.Helper()
	s := begin(t, 5)
	s.Receive(packet(7, 5, 0, 0, ""))
	s.Out()
	return s
}

// P18.1: epochs, and sessions that nobody made.
func TestNew(t *testing.T) {
	for epoch, want := range map[int]api.Errno{1: api.OK, top: api.OK, 0: api.ErrArg, -1: api.ErrArg, top + 1: api.ErrArg, math.MaxInt: api.ErrArg} {
		if s, err := session.New(epoch); err != want || (s == nil) != (err != api.OK) {
			t.Error(epoch, s, err)
		}
	}
	for _, s := range []*session.Session{nil, {}} {
		s.Tick()
		s.Receive(packet(7, 0, 1, 0, "x"))
		send(t, s, strings.Repeat("x", 500), api.ErrNil)
		out(t, s)
		take(t, s)
		is(t, s, 0, 0, 0)
	}
	is(t, begin(t, 3), 0, 0, 0)
}

// P18.1 to P18.4: the chapter's examples.
func TestExamples(t *testing.T) {
	a, b := begin(t, 5), begin(t, 7)
	send(t, a, "x", api.ErrState)
	out(t, a, packet(5, 0, 0, 0, ""))
	b.Receive(packet(5, 0, 0, 0, ""))
	out(t, b, packet(7, 5, 0, 0, ""))
	a.Receive(packet(7, 5, 0, 0, ""))
	is(t, a, 7, 0, 1)
	send(t, a, "x", api.OK)
	out(t, a, packet(5, 7, 1, 0, "x"))
	out(t, a)
	b.Receive(packet(5, 7, 1, 0, "x"))
	take(t, b, "x")
	b.Receive(packet(5, 7, 1, 0, "x"))
	take(t, b)
	out(t, b, packet(7, 5, 0, 1, ""))
	is(t, a, 7, 1, 1)
	a.Receive(packet(7, 5, 0, 1, ""))
	is(t, a, 7, 0, 1)
	send(t, a, strings.Repeat("x", 401), api.ErrLong)
	send(t, a, strings.Repeat("x", 400), api.OK)
	is(t, a, 7, 1, 1)
}

// P18.2: the order of Send's errors, and the window.
func TestSend(t *testing.T) {
	s := begin(t, 5)
	send(t, s, strings.Repeat("x", 401), api.ErrLong)
	s = met(t)
	for i := range 8 {
		is(t, s, 7, i, 1)
		send(t, s, "x", api.OK)
	}
	send(t, s, "x", api.ErrFull)
	send(t, s, strings.Repeat("x", 401), api.ErrLong)
	is(t, s, 7, 8, 1)
}

// P18.2, P18.3: what was out goes once more behind four ticks, and no sooner.
func TestResend(t *testing.T) {
	s := met(t)
	send(t, s, "a", api.OK)
	send(t, s, "", api.OK)
	a, b := packet(5, 7, 1, 0, "a"), packet(5, 7, 2, 0, "")
	s.Tick()
	out(t, s, a, b)
	for range 3 {
		s.Tick()
		out(t, s)
	}
	send(t, s, "c", api.OK)
	out(t, s, packet(5, 7, 3, 0, "c"))
	s.Tick()
	out(t, s, a, b)
	for range 3 {
		s.Tick()
	}
	out(t, s, packet(5, 7, 3, 0, "c"))
	s.Tick()
	s.Tick()
	out(t, s, a, b)
}

// P18.3: an answer that is owed goes alone, if nothing else goes; as long as the other end is not known, something goes always.
func TestOwes(t *testing.T) {
	s := begin(t, 5)
	for range 3 {
		out(t, s, packet(5, 0, 0, 0, ""))
	}
	s.Receive(packet(7, 5, 0, 0, ""))
	out(t, s, packet(5, 7, 0, 0, ""))
	out(t, s)
	s.Receive(packet(7, 5, 0, 0, ""))
	out(t, s)
	s.Receive(packet(7, 5, 1, 0, "x"))
	send(t, s, "y", api.OK)
	out(t, s, packet(5, 7, 1, 1, "y"))
	out(t, s)
	s.Receive(packet(7, 5, 1, 0, "x"))
	out(t, s, packet(5, 7, 0, 1, ""))
	s.Receive(packet(7, 4, 0, 0, ""))
	out(t, s, packet(5, 7, 0, 1, ""))
	s.Receive(packet(7, 5, 9, 0, "z"))
	out(t, s, packet(5, 7, 0, 1, ""))
	out(t, s)
	take(t, s, "x")
}

// P18.4: packets that say nothing.
func TestNothing(t *testing.T) {
	for i, p := range []api.Packet{packet(0, 5, 1, 0, "x"), packet(-1, 5, 1, 0, "x"), packet(6, 5, 1, 1, "x"), packet(top+1, 5, 1, 0, "x"), packet(7, -1, 1, 1, "x"), packet(7, 5, -1, 1, "x"), packet(7, 5, 1, -1, "x"), packet(7, 5, top+1, 1, "x"), packet(7, 5, 1, 1, strings.Repeat("x", 401)), packet(9, 5, -1, 0, ""), packet(math.MinInt, 5, 1, 1, "x")} {
		s := met(t)
		send(t, s, "y", api.OK)
		s.Out()
		s.Receive(p)
		is(t, s, 7, 1, 1)
		take(t, s)
		out(t, s)
		if t.Failed() {
			t.Fatal(i)
		}
	}
}

// P18.4: packets at the edges of what says something.
func TestEdges(t *testing.T) {
	s := begin(t, 5)
	s.Receive(packet(0, 5, 1, 0, "x"))
	s.Receive(packet(-1, 5, 1, 0, "x"))
	take(t, s)
	is(t, s, 0, 0, 0)
	s.Receive(packet(1, 5, 1, 0, strings.Repeat("x", 400)))
	take(t, s, strings.Repeat("x", 400))
	is(t, s, 1, 0, 1)
	s.Out()
	s.Receive(packet(1, 5, top, 0, "x"))
	out(t, s, packet(5, 1, 0, 1, ""))
	s.Receive(packet(top, 5, 1, math.MaxInt, "y"))
	is(t, s, top, 0, 2)
	take(t, s, "y")
	s.Receive(packet(top, math.MaxInt, 2, 0, "z"))
	take(t, s)
}

// P18.4: what an acknowledgment lets go.
func TestAck(t *testing.T) {
	s := met(t)
	for _, b := range []string{"a", "b", "c", "d"} {
		send(t, s, b, api.OK)
	}
	s.Out()
	for _, x := range []struct{ ack, waiting int }{{0, 4}, {5, 4}, {math.MaxInt, 4}, {2, 2}, {1, 2}, {2, 2}, {0, 2}, {3, 1}, {5, 1}, {4, 0}, {4, 0}, {5, 0}} {
		s.Receive(packet(7, 5, 0, x.ack, ""))
		is(t, s, 7, x.waiting, 1)
	}
	for i := range 20 { // around the ring, more than once
		send(t, s, "e", api.OK)
		send(t, s, "f", api.OK)
		out(t, s, packet(5, 7, 5+2*i, 0, "e"), packet(5, 7, 6+2*i, 0, "f"))
		s.Receive(packet(7, 5, 0, 6+2*i, ""))
		is(t, s, 7, 0, 1)
	}
	s = met(t)
	send(t, s, "a", api.OK)
	s.Receive(packet(7, 4, 1, 1, "x")) // to another epoch: just that an answer is owed
	is(t, s, 7, 1, 1)
	take(t, s)
}

// P18.4: just the next body comes.
func TestCame(t *testing.T) {
	s := met(t)
	for _, n := range []int{2, 3, 1, 3, 1, 2, 2, 4, 3} {
		s.Receive(packet(7, 5, n, 0, string(rune('a'+n-1))))
	}
	out(t, s, packet(5, 7, 0, 3, ""))
	take(t, s, "a", "b", "c")
	take(t, s)
	s.Receive(packet(7, 5, 4, 0, ""))
	s.Receive(packet(7, 5, 0, 0, "not a body"))
	take(t, s, "")
}

// P18.1, P18.4: to turn to an epoch.
func TestTurn(t *testing.T) {
	s := met(t)
	send(t, s, "a", api.OK)
	send(t, s, "b", api.OK)
	s.Out()
	s.Receive(packet(7, 5, 1, 1, "x"))
	s.Out()
	s.Receive(packet(9, 0, 1, 1, "y")) // it does not know this end yet
	is(t, s, 9, 0, 2)
	out(t, s, packet(5, 9, 0, 0, ""))
	s.Receive(packet(7, 5, 2, 0, "old"))
	is(t, s, 9, 0, 2)
	send(t, s, "c", api.OK)
	s.Receive(packet(9, 5, 1, 0, "z"))
	out(t, s, packet(5, 9, 1, 1, "c"))
	take(t, s, "x", "z")
	s.Receive(packet(12, 5, 1, 1, "w")) // it turns, and the body counts at once; there is nothing to acknowledge
	is(t, s, 12, 0, 3)
	out(t, s, packet(5, 12, 0, 1, ""))
	take(t, s, "w")
	send(t, s, "d", api.OK)
	out(t, s, packet(5, 12, 1, 1, "d"))
}

// end is one end of an edge with what it was sent to send, since it last turned, and took, by the other end's epochs.
type end struct {
	s     *session.Session
	epoch int
	sent  map[[2]int][]string
	took  map[[2]int][]string
}

func fresh(t *testing.T, epoch int, old *end) *end {
	e := &end{s: begin(t, epoch), epoch: epoch, sent: map[[2]int][]string{}, took: map[[2]int][]string{}}
	if old != nil {
		e.sent, e.took = old.sent, old.took
	}
	return e
}

func (e *end) take() {
	for _, b := range e.s.Take() {
		key := [2]int{e.s.Peer(), e.epoch}
		e.took[key] = append(e.took[key], string(b))
	}
}

func (e *end) send(body string) {
	if e.s.Send([]byte(body)) == api.OK {
		key := [2]int{e.epoch, e.s.Peer()}
		e.sent[key] = append(e.sent[key], body)
	}
}

// P18.5, P18.6: whatever the link does, what is taken is a beginning of what was sent; and if it loses nothing any more, all comes.
func TestWhatFollows(t *testing.T) {
	rnd := rand.New(rand.NewSource(1))
	came := 0
	for range 300 {
		next := 1
		fleet := [2]*end{fresh(t, 1, nil), fresh(t, 1, nil)}
		var air [2][]api.Packet
		for i := range 120 {
			n := rnd.Intn(2)
			e := fleet[n]
			switch rnd.Intn(7) {
			case 0, 1:
				e.send(string([]byte{'a' + byte(n), byte(i)}))
			case 2, 3:
				air[n] = append(air[n], e.s.Out()...)
			case 4:
				e.s.Tick()
			case 5:
				for range rnd.Intn(4) {
					if l := air[1-n]; len(l) > 0 { // any of those in the air, which stays there now and then
						k := rnd.Intn(len(l))
						e.s.Receive(l[k])
						e.take()
						if rnd.Intn(3) > 0 {
							air[1-n] = slices.Delete(l, k, k+1)
						}
					}
				}
			case 6:
				if rnd.Intn(6) == 0 {
					next++
					fleet[n] = fresh(t, next, e)
				}
			}
		}
		for range 2 {
			for n, e := range fleet {
				for range 4 {
					e.s.Tick()
				}
				if rnd.Intn(2) == 0 {
					e.send(string([]byte{'a' + byte(n), 250}))
				}
			}
			for range 2 {
				for n, e := range fleet {
					for _, p := range e.s.Out() {
						fleet[1-n].s.Receive(p)
						fleet[1-n].take()
					}
				}
			}
		}
		for n, e := range fleet {
			key := [2]int{fleet[1-n].epoch, e.epoch}
			if e.s.Waiting() != 0 || !slices.Equal(e.took[key], fleet[1-n].sent[key]) {
				t.Fatal(e.s.Waiting(), e.took[key], fleet[1-n].sent[key])
			}
			for key, took := range e.took {
				sent := fleet[1-n].sent[key]
				if len(took) > len(sent) || !slices.Equal(took, sent[:len(took)]) {
					t.Fatal(key, took, sent)
				}
				came += len(took)
			}
		}
	}
	if came < 1000 {
		t.Error("too few:", came)
	}
}

// What is handed in is not kept, what is told is new memory.
func TestMemory(t *testing.T) {
	s := met(t)
	in := []byte{'a', 'b', 'c'}
	s.Send(in[:2])
	in[0] = 'x'
	p := s.Out()
	p[0].Body[0] = 'x'
	_ = append(p[0].Body, 'x')
	for range 4 {
		s.Tick()
	}
	out(t, s, packet(5, 7, 1, 0, "ab"))
	q := packet(7, 5, 1, 0, "cd")
	s.Receive(q)
	q.Body[0] = 'x'
	took := s.Take()
	if string(took[0]) != "cd" || in[2] != 'c' {
		t.Error(took)
	}
	took[0][0] = 'x'
	_ = append(took, nil)
	s.Receive(packet(7, 5, 2, 0, "ef"))
	take(t, s, "ef")
}
