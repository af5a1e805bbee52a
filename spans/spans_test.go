package spans_test

import (
	"math/rand"
	"slices"
	"testing"

	"tributary/api"
	"tributary/past"
	"tributary/spans"
)

func TestJoin(t *testing.T) {
	in := []api.Span{{Node: 2, From: 1, To: 1}, {Node: 1, From: 5, To: 9}, {Node: 1, From: 1, To: 2}, {Node: 1, From: 3, To: 3}, {Node: 1, From: 6, To: 7}, {Node: 2, From: 3, To: 3}}
	was := slices.Clone(in)
	want := []api.Span{{Node: 1, From: 1, To: 3}, {Node: 1, From: 5, To: 9}, {Node: 2, From: 1, To: 1}, {Node: 2, From: 3, To: 3}}
	if got := spans.Join(in); !slices.Equal(got, want) || !slices.Equal(in, was) {
		t.Error(got, in)
	}
	if got := spans.Join(nil); len(got) > 0 {
		t.Error(got)
	}
}

// What is joined at once is what is joined one by one.
func TestLikePast(t *testing.T) {
	rnd := rand.New(rand.NewSource(1))
	for range 1000 {
		var l, one []api.Span
		for range rnd.Intn(12) {
			from := 1 + rnd.Intn(20)
			s := api.Span{Node: 1 + rnd.Intn(3), From: from, To: from + rnd.Intn(4)}
			l = append(l, s)
			one, _ = past.Join(one, []api.Span{s})
		}
		if got := spans.Join(l); !slices.Equal(got, one) {
			t.Fatal(l, got, one)
		}
	}
}
