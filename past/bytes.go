package past

import "tributary/api"

const (
	headSize = 2 // how many bytes tell how many spans there are
	spanSize = 9 // how many bytes a span has
)

// Bytes tells a past's bytes.
func Bytes(l []api.Span) ([]byte, api.Errno) {
	if err := Check(l); err != api.OK {
		return nil, err
	}
	b := make([]byte, 0, headSize+spanSize*len(l))
	b = append(b, byte(len(l)>>8), byte(len(l)))
	for _, s := range l {
		b = append(b, byte(s.Node))
		b = append(b, four(s.From)...)
		b = append(b, four(s.To)...)
	}
	return b, api.OK
}

func four(n int) []byte { return []byte{byte(n >> 24), byte(n >> 16), byte(n >> 8), byte(n)} }

func number(b []byte) int {
	return fold(b, 0, func(n int, x byte) int { return n<<8 | int(x) })
}

// Read tells the past of bytes.
func Read(b []byte) ([]api.Span, api.Fault) {
	if len(b) < headSize {
		return nil, api.Fault{Err: api.ErrBytes, At: len(b)}
	}
	end := headSize + spanSize*number(b[:headSize])
	if len(b) != end {
		return nil, api.Fault{Err: api.ErrBytes, At: min(len(b), end)}
	}
	var l []api.Span
	for i := headSize; i < end; i += spanSize {
		l = append(l, api.Span{Node: int(b[i]), From: number(b[i+1 : i+5]), To: number(b[i+5 : i+9])})
	}
	if err := Check(l); err != api.OK {
		return nil, api.Fault{Err: err}
	}
	return l, api.Fault{}
}
