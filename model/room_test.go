package model_test

import (
	"testing"

	"gearbox/api"
)

// P12.2: Words are at most the room, whatever the end is.
func TestWordsAtMostRoom(t *testing.T) {
	text := `var l = []; var m = {}; var i = 0; while yes { l[i] = $i; m[i] = l; if i % 7 == 0 { l = []; i = 0; } i = i + 1; fn() { return l; }(); }`
	for room := 1; room < 400; room++ {
		if o := run(t, of(t, text), room, 300); o.Words > room || o.End == api.EndRoom && o.Fuel == 0 {
			t.Fatalf("room %d: %v", room, o)
		}
	}
}
