package listing

import "gearbox/api"

// reader has the code that lines tell, as far as they were taken.
type reader struct {
	fns  api.Program
	last row // of the line that was taken last
}

// take: one more line; false, if it is none, or stands where it may not.
func (r *reader) take(text string) bool {
	l := line{rest: text}
	first := l.first()
	its := rowOf(first)
	if !its.mayFollow(r.last) {
		return false
	}
	r.last = its
	if its == fnRow {
		r.fns = keep(r.fns, l.head(), api.MaxFns)
	} else {
		addTo(&r.fns[len(r.fns)-1], its, first, &l)
	}
	return l.isRight()
}

// addTo: what a line tells of a function, but for its first one.
func addTo(f *api.Fn, its row, first word, l *line) {
	switch its {
	case capRow:
		f.Caps = keep(f.Caps, api.Cap{Up: first == wordUp, N: l.number()}, api.MaxParts)
	case constRow:
		f.Consts = keep(f.Consts, l.constant(first), api.MaxCode)
	case insRow:
		f.Lines = keep(f.Lines, l.lineOf(first), api.MaxCode)
		f.Code = keep(f.Code, l.ins(), api.MaxCode)
	case catchRow:
		f.Handlers = keep(f.Handlers, l.handler(), api.MaxCode)
	}
}

// keep: a list with one more behind it. A list that is above its limit already may not be, whatever else is in it: so a text of very many lines does not ask for more memory than code may have.
func keep[T any](l []T, x T, limit int) []T {
	if len(l) > limit {
		return l
	}
	return append(l, x)
}
