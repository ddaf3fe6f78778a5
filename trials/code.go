package trials

import (
	"slices"
	"strconv"
	"strings"

	"gearbox/api"
)

// Words: what the instructions are called, by their Op.
func Words() []string {
	return strings.Fields("None Const Nil Yes No Load Store Cell CellLoad CellStore Up UpStore Pop Dup Bin Not Neg Len Show Jump Unless Loop List Map Get Put Fn Call Return Throw Print")
}

// Part is something that a function has beside its instructions.
type Part func(f *api.Fn)

// Fn: a function of instructions as words, each with its A behind it, if that is not 0.
func Fn(code string, parts ...Part) api.Fn {
	var f api.Fn
	words := Words()
	for _, word := range strings.Fields(code) {
		if op := slices.Index(words, word); op >= 0 {
			f.Code = append(f.Code, api.Ins{Op: api.Op(op)})
			continue
		}
		n, err := strconv.Atoi(word)
		if err != nil {
			panic(word)
		}
		f.Code[len(f.Code)-1].A = n
	}
	f.Lines = make([]int, len(f.Code))
	for _, p := range parts {
		p(&f)
	}
	return f
}

// Locals: so many.
func Locals(n int) Part { return func(f *api.Fn) { f.Locals = n } }

// Params: so many, which are locals, too.
func Params(n int) Part { return func(f *api.Fn) { f.Params, f.Locals = n, max(n, f.Locals) } }

// Caps: these.
func Caps(l ...api.Cap) Part { return func(f *api.Fn) { f.Caps = l } }

// Consts: numbers (int) and texts (string).
func Consts(l ...any) Part {
	return func(f *api.Fn) {
		for _, x := range l {
			switch x := x.(type) {
			case int:
				f.Consts = append(f.Consts, api.Const{Kind: api.Int, N: int64(x)})
			case string:
				f.Consts = append(f.Consts, api.Const{Kind: api.Text, S: x})
			}
		}
	}
}

// Handlers: From, To, At, Deep of each, one behind the other.
func Handlers(l ...int) Part {
	return func(f *api.Fn) {
		for h := range slices.Chunk(l, 4) {
			f.Handlers = append(f.Handlers, api.Handler{From: h[0], To: h[1], At: h[2], Deep: h[3]})
		}
	}
}
