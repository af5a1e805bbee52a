// Package order makes orders of three answers, as sorting wants them, of funcs that tell just whether one comes ahead of another one.
package order

// Of tells how one lies to another one: below 0, if it comes ahead, above 0, if the other one does, else 0.
func Of[E any](a, b E, less func(a, b E) bool) int {
	switch {
	case less(a, b):
		return -1
	case less(b, a):
		return 1
	}
	return 0
}
