package install

import (
	"tributary/api"
	"tributary/effect"
	"tributary/past"
	"tributary/wire"
)

// How many bytes of an intent's parts are read at most.
const (
	mostPath   = 77
	mostEffect = 1100
	mostPast   = 40000
)

// Bytes tells an intent's bytes.
func Bytes(x api.Intent) ([]byte, api.Errno) {
	if err := Check(x); err != api.OK {
		return nil, err
	}
	made, _ := effect.Bytes(x.Effect)
	behind, _ := past.Bytes(x.Past)
	w := wire.New()
	w.Text(x.Path)
	w.Raw(made)
	w.Raw(behind)
	w.Num(x.Stamp)
	return w.Out()
}

// Read tells the intent of bytes.
func Read(b []byte) (api.Intent, api.Fault) {
	r := wire.Open(b)
	at, made, behind, stamp := r.Text(mostPath), r.Raw(mostEffect), r.Raw(mostPast), r.Num(0, api.MaxClock)
	if fault := r.End(); fault.Err != api.OK {
		return api.Intent{}, fault
	}
	e, wrongEffect := effect.Read(made)
	l, wrongPast := past.Read(behind)
	x := api.Intent{Path: at, Effect: e, Past: l, Stamp: stamp}
	if wrongEffect.Err != api.OK || wrongPast.Err != api.OK || Check(x) != api.OK {
		return api.Intent{}, api.Fault{Err: api.ErrArg}
	}
	return x, api.Fault{}
}
