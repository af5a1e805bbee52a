package node

import (
	"bytes"

	"tributary/api"
	"tributary/dot"
	"tributary/effect"
	"tributary/event"
	"tributary/past"
	"tributary/path"
	"tributary/wire"
)

// How many bytes of a record's parts are read at most.
const (
	mostRaw  = 50000
	mostPath = 77
)

// field is a part of a record: how it is written, and how it is read.
type field struct {
	put func(w *wire.Writer, r api.Rec)
	get func(from *wire.Reader, r *api.Rec)
}

// shape is what of a record is looked at, and how it is written; its N is from low to high.
type shape struct {
	low, high                int
	event, shown, dot, known bool
	fields                   []field
}

// shapeOf tells the shape of records of a kind.
func shapeOf(kind int) shape {
	switch kind {
	case api.RecOwn, api.RecEvent:
		return shape{event: true, fields: []field{eventField()}}
	case api.RecShown:
		return shape{shown: true, fields: []field{pathField(), effectField(), pastField(func(r *api.Rec) *[]api.Span { return &r.Shown.Past })}}
	case api.RecPeer:
		s := numbered(1, api.MaxNodes, pastField(func(r *api.Rec) *[]api.Span { return &r.Known }))
		s.known = true
		return s
	case api.RecLearn:
		s := numbered(1, api.MaxNodes, number(1, api.MaxNodes, func(r *api.Rec) *int { return &r.Dot.Node }), number(1, api.MaxSeq, func(r *api.Rec) *int { return &r.Dot.Seq }))
		s.dot = true
		return s
	case api.RecDrop:
		return numbered(1, api.MaxNodes)
	case api.RecEpoch:
		return numbered(1, api.MaxEpoch)
	case api.RecReport:
		return numbered(0, api.MaxReports)
	}
	return shape{low: 1}
}

// numbered tells the shape of records that have an N, and, behind it, more.
func numbered(low, high int, more ...field) shape {
	n := number(low, high, func(r *api.Rec) *int { return &r.N })
	return shape{low: low, high: high, fields: append([]field{n}, more...)}
}

// number tells the field of a number.
func number(low, high int, at func(r *api.Rec) *int) field {
	return field{
		put: func(w *wire.Writer, r api.Rec) { w.Num(*at(&r)) },
		get: func(from *wire.Reader, r *api.Rec) { *at(r) = from.Num(low, high) },
	}
}

func eventField() field {
	return field{
		put: func(w *wire.Writer, r api.Rec) {
			b, _ := event.Bytes(r.Event)
			w.Raw(b)
		},
		get: func(from *wire.Reader, r *api.Rec) { r.Event, _ = event.Read(from.Raw(mostRaw)) },
	}
}

func pathField() field {
	return field{
		put: func(w *wire.Writer, r api.Rec) { w.Text(r.Shown.Path) },
		get: func(from *wire.Reader, r *api.Rec) { r.Shown.Path = from.Text(mostPath) },
	}
}

func effectField() field {
	return field{
		put: func(w *wire.Writer, r api.Rec) {
			b, _ := effect.Bytes(r.Shown.Effect)
			w.Raw(b)
		},
		get: func(from *wire.Reader, r *api.Rec) { r.Shown.Effect, _ = effect.Read(from.Raw(mostRaw)) },
	}
}

func pastField(at func(r *api.Rec) *[]api.Span) field {
	return field{
		put: func(w *wire.Writer, r api.Rec) {
			b, _ := past.Bytes(*at(&r))
			w.Raw(b)
		},
		get: func(from *wire.Reader, r *api.Rec) { *at(r), _ = past.Read(from.Raw(mostRaw)) },
	}
}

// fits tells whether what is looked at of a record may be, and the rest of it is nought.
func (s shape) fits(r api.Rec) bool {
	return r.N >= s.low && r.N <= s.high && s.fitsEvent(r.Event) && s.fitsShown(r.Shown) && s.fitsDot(r.Dot) && s.fitsKnown(r.Known)
}

func (s shape) fitsEvent(e api.Event) bool {
	if s.event {
		return event.Check(e) == api.OK
	}
	return event.Same(e, api.Event{})
}

func (s shape) fitsShown(x api.Shown) bool {
	if s.shown {
		return path.Check(x.Path) == api.OK && effect.Check(x.Effect) == api.OK && past.Check(x.Past) == api.OK
	}
	return x.Path == "" && effect.Same(x.Effect, api.Effect{}) && len(x.Past) == 0
}

func (s shape) fitsDot(d api.Dot) bool {
	if s.dot {
		return dot.Check(d) == api.OK
	}
	return d == api.Dot{}
}

func (s shape) fitsKnown(l []api.Span) bool {
	if s.known {
		return past.Check(l) == api.OK
	}
	return len(l) == 0
}

// PutRec tells a record's bytes.
func PutRec(r api.Rec) ([]byte, api.Errno) {
	s := shapeOf(r.Kind)
	if !s.fits(r) {
		return nil, api.ErrArg
	}
	w := wire.New()
	w.Num(r.Kind)
	for _, f := range s.fields {
		f.put(w, r)
	}
	return w.Out()
}

// GetRec tells the record of bytes.
func GetRec(b []byte) (api.Rec, api.Fault) {
	from := wire.Open(b)
	r := api.Rec{Kind: from.Num(api.RecOwn, api.RecReport)}
	for _, f := range shapeOf(r.Kind).fields {
		f.get(from, &r)
	}
	if fault := from.End(); fault.Err != api.OK {
		return api.Rec{}, fault
	}
	// What a part could not be read as is nought: it is written otherwise, or not at all.
	if back, err := PutRec(r); err != api.OK || !bytes.Equal(back, b) {
		return api.Rec{}, api.Fault{Err: api.ErrArg}
	}
	return r, api.Fault{}
}
