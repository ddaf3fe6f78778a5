package machine

import "gearbox/api"

// Told: what a run is told to do at its points, each time at the next one; behind the last one nothing.
func Told(acts []api.ActKind) func() api.ActKind {
	points := 0
	return func() api.ActKind {
		n := points
		points++
		if n >= len(acts) {
			return api.ActNone
		}
		return acts[n]
	}
}
