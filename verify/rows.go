package verify

import (
	"math"
	"slices"

	"demotic/api"
	"demotic/types"
)

// The names of operations that say how others may stand.
const (
	functionName = "func.func"
	callName     = "func.call"
	returnName   = "func.return"
	ifName       = "scf.if"
	forName      = "scf.for"
	whileName    = "scf.while"
	condName     = "scf.cond"
	yieldName    = "scf.yield"
)

const (
	indexType = "index"
	truthType = "i1"
	firstCode = 16 // the smaller ones are those of other operations
)

// row tells what a row of the chapter says of the types of an operation: OK, ErrShape or ErrTypes. It is asked only where the operation has the regions and attributes, and the numbers of operands and results, that its description names.
type row func(*site) api.Errno

// rows returns the rows by the names of the operations.
func rows() map[string]row {
	return map[string]row{
		returnName:    (*site).returned,
		"arith.const": (*site).constant,
		"arith.cmp":   (*site).comparison,
		"arith.exts":  (*site).widening,
		"arith.extu":  (*site).widening,
		"arith.trunc": (*site).narrowing,
		"arith.cast":  (*site).cast,
		"mem.alloc":   (*site).allocation,
		"arr.splat":   (*site).splat,
		"cf.trap":     (*site).trap,
		ifName:        (*site).choice,
		forName:       (*site).count,
		whileName:     (*site).repetition,
		condName:      (*site).handedOn,
		yieldName:     (*site).handedOn,
	}
}

// compared returns ErrShape if there are not as many as are wanted, and ErrTypes if there are others.
func compared[E comparable](got []E, wanted ...E) api.Errno {
	if len(got) != len(wanted) {
		return api.ErrShape
	}
	return unless(slices.Equal(got, wanted))
}

// unless returns ErrTypes unless something holds.
func unless(holds bool) api.Errno {
	if holds {
		return api.OK
	}
	return api.ErrTypes
}

// shapeFirst returns the first of several errors: ErrShape comes before ErrTypes.
func shapeFirst(l ...api.Errno) api.Errno {
	switch {
	case slices.Contains(l, api.ErrShape):
		return api.ErrShape
	case slices.Contains(l, api.ErrTypes):
		return api.ErrTypes
	}
	return api.OK
}

// attribute returns the attribute of an operation that has a name and a kind.
func attribute(op *api.Op, name string, kind api.Kind) (api.Attr, bool) {
	for _, a := range op.Attrs {
		if a.Name == name && a.Kind == kind {
			return a, true
		}
	}
	return api.Attr{}, false
}

// resultTypes returns the types of the results of a function; none if it does not say them.
func resultTypes(function *api.Op) []string {
	a, _ := attribute(function, "results", api.Types)
	return a.Texts
}

// entryTypes returns the types of the arguments of a region of an operation.
func entryTypes(op *api.Op, region int) []string {
	return op.Regions[region].Blocks[entry].Args
}

// number returns the attribute of the operation that has a name and is a number.
func (s *site) number(name string) int64 {
	a, _ := attribute(s.op, name, api.Int)
	return a.Int
}

// symbol returns the attribute of the operation that has a name and is the name of a function.
func (s *site) symbol(name string) string {
	a, _ := attribute(s.op, name, api.Symbol)
	return a.Text
}

// errorOfSuccessors returns ErrShape if one of them is the entry, or gets another number of arguments than its block has, and ErrTypes if it gets others.
func (s *site) errorOfSuccessors() api.Errno {
	e := api.OK
	for _, next := range s.op.Succs {
		if next.Block == entry {
			return api.ErrShape
		}
		given := s.function.typesOf(next.Args)
		e = shapeFirst(e, compared(given, s.at.region.blocks[next.Block].Args...))
	}
	return e
}

// oneResult returns ErrShape if there is not just one result, and ErrTypes if its type does not fit.
func (s *site) oneResult(fits func(t string) bool) api.Errno {
	if len(s.op.Results) != 1 {
		return api.ErrShape
	}
	return unless(fits(s.op.Results[0]))
}

func (s *site) constant() api.Errno {
	n := s.number("value")
	return s.oneResult(func(t string) bool {
		low, high, e := types.Range(t)
		return e == api.OK && low <= n && n <= high
	})
}

func (s *site) comparison() api.Errno {
	pred, _ := attribute(s.op, "pred", api.Text)
	switch pred.Text {
	case "eq", "ne", "slt", "sle", "sgt", "sge", "ult", "ule", "ugt", "uge":
		return api.OK
	}
	return api.ErrTypes
}

// integerBits returns the bits of an integer type; 0 of another type.
func integerBits(t string) int {
	kind, _ := types.KindOf(t)
	if kind != types.Integer {
		return 0
	}
	bits, _ := types.Bits(t)
	return bits
}

func (s *site) widening() api.Errno {
	from := integerBits(s.in[0])
	return s.oneResult(func(t string) bool { return integerBits(t) > from })
}

func (s *site) narrowing() api.Errno {
	from := integerBits(s.in[0])
	return s.oneResult(func(t string) bool {
		to := integerBits(t)
		return 0 < to && to < from
	})
}

func (s *site) cast() api.Errno {
	from := s.in[0]
	return s.oneResult(func(t string) bool {
		return t == from || (t == indexType) != (from == indexType)
	})
}

func (s *site) allocation() api.Errno {
	return s.oneResult(func(t string) bool {
		kind, _ := types.KindOf(t)
		return kind == types.Memory
	})
}

func (s *site) splat() api.Errno {
	return s.oneResult(func(t string) bool {
		kind, _ := types.KindOf(t)
		element, _ := types.Element(t)
		return kind == types.Array && element == s.in[0]
	})
}

func (s *site) trap() api.Errno {
	code := s.number("code")
	return unless(firstCode <= code && code <= math.MaxInt32)
}

func (s *site) choice() api.Errno {
	return shapeFirst(compared(entryTypes(s.op, 0)), compared(entryTypes(s.op, 1)))
}

func (s *site) count() api.Errno {
	step := s.number("step")
	carried := s.op.Results
	return shapeFirst(
		unless(1 <= step && step <= math.MaxInt32),
		compared(s.in[2:], carried...),
		compared(entryTypes(s.op, 0), behind(indexType, carried)...),
	)
}

func (s *site) repetition() api.Errno {
	return shapeFirst(
		compared(entryTypes(s.op, 0), s.in...),
		compared(entryTypes(s.op, 1), s.op.Results...),
	)
}

// behind returns a list with a first element before others.
func behind(first string, others []string) []string {
	return append([]string{first}, others...)
}

// handedOn is the row of what ends regions. Elsewhere its operands may be any.
func (s *site) handedOn() api.Errno {
	wanted, isWanted := s.wantedEnd()
	if !isWanted || wanted.name != s.op.Name {
		return api.OK
	}
	return compared(s.in, wanted.operands...)
}

// returned is the row of what ends functions. Elsewhere its operands may be any.
func (s *site) returned() api.Errno {
	if !s.isInBody() {
		return api.OK
	}
	return compared(s.in, resultTypes(s.at.region.owner.op)...)
}
