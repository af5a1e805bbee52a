package event

import (
	"tributary/api"
	"tributary/effect"
	"tributary/past"
	"tributary/wire"
)

// How many bytes of an event's parts are read at most.
const (
	mostPath   = 77
	mostEffect = 1100
	mostPast   = 40000
)

// Bytes tells an event's bytes.
func Bytes(e api.Event) ([]byte, api.Errno) {
	if err := Check(e); err != api.OK {
		return nil, err
	}
	made, _ := effect.Bytes(e.Effect)
	behind, _ := past.Bytes(e.Past)
	w := wire.New()
	w.Num(e.Dot.Node)
	w.Num(e.Dot.Seq)
	w.Text(e.Path)
	w.Raw(made)
	w.Raw(behind)
	return w.Out()
}

// Size tells how many bytes an event has.
func Size(e api.Event) int {
	b, _ := Bytes(e)
	return len(b)
}

// Read tells the event of bytes.
func Read(b []byte) (api.Event, api.Fault) {
	r := wire.Open(b)
	d := api.Dot{Node: r.Num(1, api.MaxNodes), Seq: r.Num(1, api.MaxSeq)}
	at, made, behind := r.Text(mostPath), r.Raw(mostEffect), r.Raw(mostPast)
	if fault := r.End(); fault.Err != api.OK {
		return api.Event{}, fault
	}
	x, wrongEffect := effect.Read(made)
	l, wrongPast := past.Read(behind)
	e := api.Event{Dot: d, Path: at, Effect: x, Past: l}
	if wrongEffect.Err != api.OK || wrongPast.Err != api.OK || Check(e) != api.OK {
		return api.Event{}, api.Fault{Err: api.ErrArg}
	}
	return e, api.Fault{}
}
