package model_test

import (
	"testing"

	"gearbox/model"
	"gearbox/trials"
)

// P12.1: what is written down by hand of each instruction, of what is thrown and caught, of calls, points and room.
func TestTrials(t *testing.T) {
	for _, c := range trials.All() {
		o, e := model.Run(c.Program, c.Room, c.Fuel)
		if e != 0 || !c.Meets(o) {
			t.Errorf("%s: %s, room %d, fuel %d:\n%s, %d, want\n%s", c.Name, brief(c.Program), c.Room, c.Fuel, told(o), e, told(c.Want))
		}
	}
}
