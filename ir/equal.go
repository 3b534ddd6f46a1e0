package ir

import (
	"slices"

	"demotic/api"
	"demotic/attrs"
)

func sameOperation(a, b api.Op) bool {
	return a.Name == b.Name &&
		slices.Equal(a.Operands, b.Operands) &&
		slices.Equal(a.Results, b.Results) &&
		slices.EqualFunc(a.Attrs, b.Attrs, sameAttribute) &&
		slices.EqualFunc(a.Regions, b.Regions, sameRegion) &&
		slices.EqualFunc(a.Succs, b.Succs, sameSuccessor)
}

func sameRegion(a, b api.Region) bool {
	return slices.EqualFunc(a.Blocks, b.Blocks, sameBlock)
}

func sameBlock(a, b api.Block) bool {
	return slices.Equal(a.Args, b.Args) && slices.EqualFunc(a.Ops, b.Ops, sameOperation)
}

func sameSuccessor(a, b api.Succ) bool {
	return a.Block == b.Block && slices.Equal(a.Args, b.Args)
}

func sameAttribute(a, b api.Attr) bool {
	same, _ := attrs.Equal(a, b)
	return same
}
