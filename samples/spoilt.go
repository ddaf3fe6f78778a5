package samples

import "gearbox/api"

// Spoil: something in a program is something else then; it may be one all the same.
func Spoil(d *Dice, p api.Program) {
	for range 1 + d.Below(2) {
		f := &p[d.Below(len(p))]
		i := d.Below(len(f.Code))
		switch d.Below(6) {
		case 0:
			f.Code[i].Op = api.Op(d.Below(int(api.OpPrint) + 3))
		case 1:
			f.Code[i] = f.Code[d.Below(len(f.Code))]
		case 2:
			f.Locals += d.Below(3) - 1
		case 3:
			f.Handlers = append(f.Handlers, api.Handler{From: i, To: i + 1, At: i + 1 + d.Below(4), Deep: d.Below(3)})
		default:
			f.Code[i].A += d.Below(5) - 2
		}
	}
}
