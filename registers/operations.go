package registers

import (
	"gearbox/api"
	"gearbox/machine"
	"gearbox/plain"
)

// is: an operation that comes to a value, whatever it is.
func is(v api.Val) machine.Did { return machine.Did{Val: v} }

func (f *Frame) constant(g machine.Ground, i *api.RegIns) machine.Did {
	c := f.code.fn.Consts[i.N]
	if c.Kind == api.Int {
		return is(api.Val{Kind: api.Int, N: c.N})
	}
	return g.Text(c.S)
}

func (f *Frame) value(_ machine.Ground, i *api.RegIns) machine.Did {
	return is(api.Val{Kind: i.Kind, N: i.N})
}

func (f *Frame) move(_ machine.Ground, i *api.RegIns) machine.Did { return is(f.arg(i, 0)) }

func (f *Frame) cell(g machine.Ground, i *api.RegIns) machine.Did { return g.Cell(f.arg(i, 0)) }

func (f *Frame) cellLoad(g machine.Ground, i *api.RegIns) machine.Did { return g.Load(f.arg(i, 0)) }

func (f *Frame) cellStore(g machine.Ground, i *api.RegIns) machine.Did {
	return g.Store(f.arg(i, 0), f.arg(i, 1))
}

func (f *Frame) up(g machine.Ground, i *api.RegIns) machine.Did {
	return g.Load(g.CellOf(f.by, int(i.N)))
}

func (f *Frame) upStore(g machine.Ground, i *api.RegIns) machine.Did {
	return g.Store(g.CellOf(f.by, int(i.N)), f.arg(i, 0))
}

func (f *Frame) bin(g machine.Ground, i *api.RegIns) machine.Did {
	return g.Bin(api.Bin(i.N), f.arg(i, 0), f.arg(i, 1))
}

func (f *Frame) not(_ machine.Ground, i *api.RegIns) machine.Did {
	return machine.Alone(plain.Not(f.arg(i, 0)))
}

func (f *Frame) neg(_ machine.Ground, i *api.RegIns) machine.Did {
	return machine.Alone(plain.Neg(f.arg(i, 0)))
}

func (f *Frame) length(g machine.Ground, i *api.RegIns) machine.Did { return g.Len(f.arg(i, 0)) }

func (f *Frame) show(g machine.Ground, i *api.RegIns) machine.Did { return g.Show(f.arg(i, 0)) }

func (f *Frame) intBin(g machine.Ground, i *api.RegIns) machine.Did {
	if f.arg(i, 0).Kind != api.Int || f.arg(i, 1).Kind != api.Int {
		return machine.Did{Thrown: plain.ThrowKind}
	}
	return f.bin(g, i)
}

func (f *Frame) guard(_ machine.Ground, i *api.RegIns) machine.Did {
	if f.arg(i, 0).Kind != i.Kind {
		return machine.Did{Thrown: plain.ThrowKind}
	}
	return machine.Did{}
}

func (f *Frame) list(g machine.Ground, i *api.RegIns) machine.Did { return g.List(f.args(i, 0)) }

func (f *Frame) dict(g machine.Ground, i *api.RegIns) machine.Did { return g.Map(f.args(i, 0)) }

func (f *Frame) get(g machine.Ground, i *api.RegIns) machine.Did {
	return g.Get(f.arg(i, 0), f.arg(i, 1))
}

func (f *Frame) put(g machine.Ground, i *api.RegIns) machine.Did {
	return g.Put(f.arg(i, 0), f.arg(i, 1), f.arg(i, 2))
}

func (f *Frame) function(g machine.Ground, i *api.RegIns) machine.Did {
	own := f.args(i, 0)
	var cells []api.Val
	for _, c := range f.code.program[i.N].Caps {
		if c.Up {
			cells = append(cells, g.CellOf(f.by, c.N))
		} else {
			cells, own = append(cells, own[0]), own[1:]
		}
	}
	return g.Fn(int(i.N), cells)
}
