package check

import (
	"slices"

	"cachet/api"
)

// ways has, for each instruction, what is known by all ways that lead to it.
type ways [api.MaxCode]api.Known

// lead joins a way, where it is gone, to those that lead to the same place.
func (w *ways) lead(to int, k api.Known) {
	if k.Come {
		w[to] = Join(w[to], k)
	}
}

// ahead tells what is known ahead of each instruction, or gives up at the first one that has an error.
func ahead(p api.Program) []api.Known {
	var joined ways
	joined.lead(0, api.Known{Come: true})
	table := ops()
	// All ways lead forwards: where an instruction's turn is, those to it are joined.
	for at, i := range p.Ins {
		if !joined[at].Come {
			continue
		}
		next, jumped := table[i.Op](step{i, p.Context, joined[at]})
		if at+reach(i) >= len(p.Ins) {
			panic(astray{})
		}
		joined.lead(at+1, next)
		joined.lead(at+1+i.Off, jumped)
	}
	return slices.Clone(joined[:len(p.Ins)])
}

// reach is how far ahead of itself an instruction leads at most, be it gone there or not.
func reach(i api.Ins) int {
	switch i.Op {
	case api.OpExit:
		return 0
	case api.OpJa, api.OpJeqi, api.OpJlti, api.OpJlt:
		return 1 + i.Off
	}
	return 1
}
