package bench

import (
	"testing"

	"tributary/api"
)

// No line makes a File of other than one byte; how one is told is looked at here.
func TestEffectText(t *testing.T) {
	for want, e := range map[string]api.Effect{"d": {Kind: api.KindDir, Mode: 5}, "-": {Kind: api.KindGone}, "0": {Kind: api.KindFile, Bytes: []byte{0}}, "255": {Kind: api.KindFile, Mode: 9, Bytes: []byte{255}}, "cbf29ce484222325": {Kind: api.KindFile}, "85944171f73967e8": {Kind: api.KindFile, Bytes: []byte("foobar")}} {
		if got := effectText(e); got != want {
			t.Error(want, got)
		}
	}
}
