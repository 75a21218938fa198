package order

// places is where the items of l stand, in the order in which ahead has them; of two of which neither is ahead, the one that stands first.
func places[T any](l []T, ahead func(a, b T) bool) []int {
	all := make([]int, len(l))
	for i := range all {
		all[i] = i
	}
	return mergeSort(all, func(a, b int) bool { return ahead(l[a], l[b]) })
}

// mergeSort is l in order; of two items of which neither is ahead, the one that stands first stays so. It merges runs of one item, then of two, of four, and so on, so it needs no calls of itself. It may write to l and answer it.
func mergeSort[T any](l []T, ahead func(a, b T) bool) []T {
	many := len(l)
	from, to := l, make([]T, many)
	for run := 1; run < many; run *= 2 {
		for start := 0; start < many; start += 2 * run {
			middle, end := min(start+run, many), min(start+2*run, many)
			merge(to[start:end], from[start:middle], from[middle:end], ahead)
		}
		from, to = to, from
	}
	return from
}

// merge fills out with the items of a and b, each of them in order. An item of b must be ahead to stand first: so none overtakes one that is the same.
func merge[T any](out, a, b []T, ahead func(a, b T) bool) {
	for i := range out {
		if len(a) == 0 || len(b) > 0 && ahead(b[0], a[0]) {
			out[i], b = b[0], b[1:]
		} else {
			out[i], a = a[0], a[1:]
		}
	}
}

// pick is the items of l at these places.
func pick[T any](l []T, at []int) []T {
	out := make([]T, len(at))
	for i, place := range at {
		out[i] = l[place]
	}
	return out
}
