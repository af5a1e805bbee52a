package frame

import (
	"tributary/api"
	"tributary/wire"
)

// kind is what a message is; the numbers are those of api.
type kind int

const (
	part kind = iota + api.MessagePart
	full
	got
)

// CheckMessage tells why a message may not be.
func CheckMessage(m api.Message) api.Errno {
	if m.Item < 1 || m.Item > api.MaxEpoch {
		return api.ErrArg
	}
	may := false
	switch kind(m.Kind) {
	case part:
		may = mayBePart(m)
	case full, got:
		may = m.Size == 0 && m.At == 0 && len(m.B) == 0
	}
	if !may {
		return api.ErrArg
	}
	return api.OK
}

func mayBePart(m api.Message) bool {
	return m.Size >= 1 && m.Size <= api.MaxItem && m.At >= 0 && m.At < m.Size && len(m.B) >= 1 && len(m.B) <= min(api.MaxPiece, m.Size-m.At)
}

// PutMessage tells a message's bytes.
func PutMessage(m api.Message) ([]byte, api.Errno) {
	if err := CheckMessage(m); err != api.OK {
		return nil, err
	}
	w := wire.New()
	w.Num(m.Kind)
	w.Num(m.Item)
	if kind(m.Kind) == part {
		w.Num(m.Size)
		w.Num(m.At)
		w.Raw(m.B)
	}
	return w.Out()
}

// rests tells how the rest of a message is read, by its kind.
func rests() map[kind]func(r *wire.Reader, m *api.Message) {
	nothing := func(*wire.Reader, *api.Message) {}
	return map[kind]func(r *wire.Reader, m *api.Message){
		part: func(r *wire.Reader, m *api.Message) {
			m.Size, m.At, m.B = r.Num(1, api.MaxItem), r.Num(0, api.MaxItem), r.Raw(api.MaxPiece)
		},
		full: nothing,
		got:  nothing,
	}
}

// GetMessage tells the message of bytes.
func GetMessage(b []byte) (api.Message, api.Fault) {
	r := wire.Open(b)
	m := api.Message{Kind: r.Num(api.MessagePart, api.MessageGot), Item: r.Num(1, api.MaxEpoch)}
	read := rests()
	switch k := kind(m.Kind); k {
	case part:
		read[part](r, &m)
	case full, got:
		read[k](r, &m)
	}
	if fault := r.End(); fault.Err != api.OK {
		return api.Message{}, fault
	}
	if err := CheckMessage(m); err != api.OK {
		return api.Message{}, api.Fault{Err: err}
	}
	return m, api.Fault{}
}
