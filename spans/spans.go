// Package spans joins many sets of changes at once: while they are joined one by one there may be more spans than at the end.
package spans

import (
	"cmp"
	"slices"

	"tributary/api"
)

// Join tells the set of all dots of these spans, in order, of which no two touch.
func Join(l []api.Span) []api.Span {
	sorted := slices.Clone(l)
	slices.SortFunc(sorted, func(a, b api.Span) int {
		return cmp.Or(cmp.Compare(a.Node, b.Node), cmp.Compare(a.From, b.From))
	})
	var out []api.Span
	for _, s := range sorted {
		if n := len(out); n > 0 && out[n-1].Node == s.Node && s.From-1 <= out[n-1].To {
			out[n-1].To = max(out[n-1].To, s.To)
			continue
		}
		out = append(out, s)
	}
	return out
}
