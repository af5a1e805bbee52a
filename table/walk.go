package table

import (
	"slices"

	"tributary/api"
	"tributary/effect"
	"tributary/fresh"
	"tributary/order"
	"tributary/path"
)

// byPath tells how an entry lies to a path, in the order of paths.
func byPath(x api.Entry, at string) int { return order.Of(x.Path, at, path.Less) }

// together goes through two lists in order at a time; where one has nothing, its element is nought.
func together[E, P any](a, b []E, order func(a, b E) int, pair func(a, b E) P) []P {
	var out []P
	var none E
	i, j := 0, 0
next:
	for i < len(a) || j < len(b) {
		switch turn := whose(a[i:], b[j:], order); {
		case turn < 0:
			out = append(out, pair(a[i], none))
			i++
			continue next
		case turn > 0:
			out = append(out, pair(none, b[j]))
			j++
			continue next
		}
		out = append(out, pair(a[i], b[j]))
		i, j = i+1, j+1
	}
	return out
}

// whose tells whether the first one's turn is next (below 0), the second one's, or that of both (0).
func whose[E any](a, b []E, order func(a, b E) int) int {
	switch {
	case len(a) == 0:
		return 1
	case len(b) == 0:
		return -1
	}
	return order(a[0], b[0])
}

// Walk tells what is in both trees, path by path.
func Walk(a, b []api.Entry) ([]api.Pair, api.Errno) {
	if Check(a) != api.OK || Check(b) != api.OK {
		return nil, api.ErrArg
	}
	return together(a, b, func(x, y api.Entry) int { return byPath(x, y.Path) }, pairOf), api.OK
}

// pairOf pairs two entries of one path, or one with nought, whose path is the empty text.
func pairOf(a, b api.Entry) api.Pair {
	return api.Pair{Path: max(a.Path, b.Path), A: fresh.Effect(a.Effect), B: fresh.Effect(b.Effect)}
}

// Diff tells where two trees are unlike.
func Diff(a, b []api.Entry) ([]api.Pair, api.Errno) {
	l, err := Walk(a, b)
	return slices.DeleteFunc(l, func(p api.Pair) bool { return effect.Same(p.A, p.B) }), err
}
