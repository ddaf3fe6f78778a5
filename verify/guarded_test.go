package verify_test

import (
	"testing"

	"gearbox/api"
)

// P9.1, P9.2: which places a handler guards, and what it tells its own.
func TestGuarded(t *testing.T) {
	wantRight(t, only("Nil Throw Return", handlers(0, 1, 2, 0)), 0, 1, 1)
	wantRight(t, only("Nil Throw Return", handlers(1, 2, 2, 0)), 0, 1, 1)
	wantRight(t, only("Nil Throw Return", handlers(1, 2, 2, 1)), 0, 1, 2)
	wantRight(t, only("Nil Throw Return"), 0, 1, -1)
	// Nothing is told by a handler that guards only what is not come to.
	wantRight(t, only("Nil Throw Nil Return Return", handlers(2, 4, 4, 0)), 0, 1, -1, -1, -1)
	wantRight(t, only("Nil Throw Nil Return Return", handlers(2, 4, 4, 200)), 0, 1, -1, -1, -1)
	wantRight(t, only("Nil Throw Nil Return Return", handlers(1, 4, 4, 1)), 0, 1, -1, -1, 2)
	// From is guarded, To is not.
	wantRight(t, only("Nil Nil Return", handlers(1, 2, 2, 1)), 0, 1, 2)
	wantFault(t, only("Nil Nil Return", handlers(0, 2, 2, 1)), 0, 0)
	wantFault(t, only("Nil Nil Return", handlers(1, 2, 2, 0)), 0, 1)
	wantFault(t, only("Nil Nil Return", handlers(1, 2, 2, 2)), 0, 1)
	wantRight(t, only("Nil Nil Nil Pop Return Return", handlers(2, 4, 5, 2)), 0, 1, 2, 3, 2, 3)
	wantFault(t, only("Nil Nil Nil Pop Pop Return Return", handlers(2, 6, 6, 2)), 0, 5)
	wantFault(t, only("Nil Nil Nil Pop Pop Return Return", handlers(1, 5, 6, 2)), 0, 1)
	// What is guarded may be what is caught by the same one's last place.
	wantRight(t, only("Nil Pop Nil Pop Nil Return", handlers(2, 3, 3, 0)), 0, 1, 0, 1, 0, 1)
}

// P9.1: several handlers, in any order, within one another and across.
func TestManyHandlers(t *testing.T) {
	wantRight(t, only("Nil Throw Return", handlers(0, 1, 2, 0, 0, 2, 2, 0, 1, 2, 2, 0)), 0, 1, 1)
	wantFault(t, only("Nil Throw Return", handlers(0, 1, 2, 0, 1, 2, 2, 1)), 0, 1)
	wantFault(t, only("Nil Throw Return", handlers(1, 2, 2, 1, 0, 1, 2, 0)), 0, 1)
	wantFault(t, only("Nil Throw Return", handlers(1, 2, 2, 1, 1, 2, 2, 0)), 0, 1)
	wantFault(t, only("Nil Throw Return", handlers(1, 2, 2, 0, 1, 2, 2, 1)), 0, 1)
	wantFault(t, only("Nil Throw Return", handlers(0, 2, 2, 0, 0, 1, 2, 1)), 0, 0)
	wantFault(t, only("Nil Throw Return", handlers(0, 1, 2, 1, 0, 2, 2, 0)), 0, 0)
	wantRight(t, only("Nil Throw Return Return Return", handlers(0, 2, 2, 0, 1, 3, 3, 1, 0, 4, 4, 0)), 0, 1, 1, 2, 1)
	wantRight(t, only("Nil Throw Nil Throw Return", handlers(2, 4, 4, 7, 2, 3, 3, 9)), 0, 1, -1, -1, -1)
	// The deepest one of all that guard a place is asked for, wherever it stands.
	for deep := range 4 {
		p := only("Nil Nil Nil Throw Return Return Return", handlers(0, 4, 4, 0, 3, 4, 5, deep, 1, 3, 6, 1))
		if deep <= 3 {
			wantRight(t, p, 0, 1, 2, 3, 1, deep+1, 2)
		}
	}
	wantFault(t, only("Nil Nil Nil Throw Return Return Return", handlers(0, 4, 4, 0, 3, 4, 5, 4, 1, 3, 6, 1)), 0, 3)
	wantFault(t, only("Nil Nil Nil Throw Return Return Return", handlers(0, 4, 4, 0, 2, 4, 5, 3, 1, 3, 6, 1)), 0, 2)
}

// P9.1: what a handler tells its place against what that place is told on another way, from ahead and from behind.
func TestCaughtAndNext(t *testing.T) {
	wantRight(t, only("Nil Jump 2 Return", handlers(1, 2, 2, 0)), 0, 1, 1)
	wantFault(t, only("Nil Jump 2 Return", handlers(1, 2, 2, 1)), 0, 1)
	wantFault(t, only("Nil Nil Jump 3 Return", handlers(1, 2, 3, 0)), 0, 2)
	wantFault(t, only("Nil Unless 3 Nil Return", handlers(1, 2, 3, 0)), 0, 1)
	wantFault(t, only("Nil Unless 3 Nil Return", handlers(2, 3, 3, 0)), 0, 2)
	wantRight(t, only("Nil Nil Unless 3 Return", handlers(2, 3, 3, 0)), 0, 1, 2, 1)
	wantFault(t, only("Nil Nil Unless 3 Return", handlers(2, 3, 3, 1)), 0, 2)
	// Code that catches may be guarded by others, and loop.
	wantRight(t, only("Nil Pop Jump 4 Store 0 Yes Unless 7 Loop 0 Nil Return", handlers(0, 2, 3, 0), locals(1)), 0, 1, 0, 1, 0, 1, 0, 0, 1)
	wantRight(t, only("Nil Throw Throw Return", handlers(0, 2, 2, 0, 2, 3, 3, 1)), 0, 1, 1, 2)
	wantFault(t, only("Nil Throw Throw Return", handlers(0, 2, 2, 0, 2, 3, 3, 2)), 0, 2)
	// A handler's number may be one more than others' greatest Deep.
	wantRight(t, only(many("Nil", api.MaxStack-1)+"Not Return Return", handlers(api.MaxStack-1, api.MaxStack, api.MaxStack+1, api.MaxStack-1)))
}
