package order

import (
	"slices"

	"interlock/api"
)

// thing is an x that a rule, told by its place, has events of.
type thing struct{ rule, x int }

// row is where the events of a thing stand, of both its rule's sides, rising.
type row struct {
	ahead  []int
	behind []int
	gone   int // so many of the side ahead, from the first on, need not be gone back to once more
}

// walk is what is known of events that are gone back through.
type walk struct {
	rules [10]rule
	rows  []row
	at    map[thing]int // where its row is
	seen  []bool        // which events are ahead of the one it began at
	stack []int         // those of them that are yet to be gone back from
}

// back says of each event whether it is ahead of the last one.
func back(p api.Program, t []api.Event) []bool {
	w := &walk{rules: rules(p), at: map[thing]int{}, seen: make([]bool, len(t))}
	for i, e := range t {
		w.note(i, e)
	}
	w.stack = append(w.stack, len(t)-1)
	for len(w.stack) > 0 {
		top := len(w.stack) - 1
		j := w.stack[top]
		w.stack = w.stack[:top]
		w.from(j, t[j])
	}
	return w.seen
}

// note puts an event into the rows that it is of.
func (w *walk) note(i int, e api.Event) {
	for n, r := range w.rules {
		if x, is := r.ahead(e); is {
			l := w.row(n, x)
			l.ahead = append(l.ahead, i)
		}
		if r.which == nil {
			// Nothing hangs on how many are behind.
			continue
		}
		if x, is := r.behind(e); is {
			l := w.row(n, x)
			l.behind = append(l.behind, i)
		}
	}
}

// row is that of x by the n-th rule. It is good till another one is asked for.
func (w *walk) row(n, x int) *row {
	at, is := w.at[thing{n, x}]
	if !is {
		at = len(w.rows)
		w.at[thing{n, x}] = at
		w.rows = append(w.rows, row{})
	}
	return &w.rows[at]
}

// from puts on the stack what is directly ahead of the j-th event, and was not there yet.
func (w *walk) from(j int, e api.Event) {
	for n, r := range w.rules {
		x, is := r.behind(e)
		if !is {
			continue
		}
		for _, i := range w.row(n, x).fresh(r, x, j) {
			if !w.seen[i] {
				w.seen[i] = true
				w.stack = append(w.stack, i)
			}
		}
	}
}

// fresh are the places of what is directly ahead of the j-th event by the rule, but for those that are gone.
func (l *row) fresh(r rule, x, j int) []int {
	first, end := 0, below(l.ahead, j)
	if r.which != nil {
		first, end = r.which(x, end, below(l.behind, j))
	}
	// Most events hear of all that others have heard of already: if each went through it again, long traces would take too long.
	if first <= l.gone {
		first, l.gone = min(l.gone, end), max(l.gone, end)
	}
	return l.ahead[first:end:end]
}

// below is how many of a rising list are less than j.
func below(l []int, j int) int {
	n, _ := slices.BinarySearch(l, j)
	return n
}
