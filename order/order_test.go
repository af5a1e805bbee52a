package order_test

import (
	"strings"
	"testing"

	"tributary/order"
)

func TestOf(t *testing.T) {
	shorter := func(a, b string) bool { return len(a) < len(b) }
	for _, x := range []struct {
		a, b string
		want int
	}{{"a", "bb", -1}, {"bb", "a", 1}, {"a", "b", 0}, {"", "", 0}} {
		if got := order.Of(x.a, x.b, shorter); got != x.want {
			t.Error(x, got)
		}
	}
	if got := order.Of("a", "b", func(a, b string) bool { return strings.Compare(a, b) < 0 }); got != -1 {
		t.Error(got)
	}
}
