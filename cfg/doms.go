package cfg

import (
	"interlock/api"
	"interlock/bits"
)

// none is the set of a node that is not come to; any other node's has that node itself.
const none uint64 = 0

// Doms are what each place can not be come to without; nothing, if there are more than a set tells of.
func Doms(succs [][]int) []uint64 {
	if len(succs) > api.MaxNodes {
		return nil
	}
	doms, preds := most(succs), Preds(succs)
again:
	changed := false
	for i := 1; i < len(doms); i++ {
		if doms[i] == none {
			continue
		}
		if s := bits.With(shared(doms, preds[i]), i); s != doms[i] {
			doms[i] = s
			changed = true
		}
	}
	if changed {
		// A way back leads what changed to a node that was looked at ahead of it.
		goto again
	}
	return doms
}

// most are sets that are too great, if not right: of 0 itself, of any other one that is come to all nodes.
func most(succs [][]int) []uint64 {
	sets := make([]uint64, len(succs))
	for i, come := range Reach(succs) {
		switch {
		case i == 0:
			// To go nowhere is a way to 0, too.
			sets[i] = bits.With(none, i)
		case come:
			sets[i] = bits.All(len(succs))
		}
	}
	return sets
}

// shared is what is in the sets of all these places; those that are not come to have no say.
func shared(doms []uint64, places []int) uint64 {
	s := bits.All(len(doms))
	for _, i := range places {
		if doms[i] != none {
			s &= doms[i]
		}
	}
	return s
}
