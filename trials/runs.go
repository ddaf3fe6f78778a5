package trials

import (
	"slices"

	"gearbox/api"
)

// Alike: do two runs come to the same?
func Alike(a, b api.Outcome) bool {
	return a.End == b.End && a.Value == b.Value && slices.Equal(a.Out, b.Out) && a.Fuel == b.Fuel && a.Words == b.Words
}

// Rooms: any, and the least one with which a run does not end for want of it, and one less. Below tells any number below one, end how the run ends.
func Rooms(below func(n int) int, end func(room int) api.EndKind) []int {
	least := 1
	for most := 4000; least < most; {
		middle := (least + most) / 2
		if end(middle) == api.EndRoom {
			least = middle + 1
		} else {
			most = middle
		}
	}
	return []int{1 + below(20), 1 + below(200), api.MaxWords, least, max(1, least-1)}
}
