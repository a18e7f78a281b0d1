package fresh

import (
	"reflect"
	"testing"

	"verdigris/api"
)

func example() api.Chain {
	return api.Chain{In: 2, Elements: []api.Element{{
		Kind:    7,
		Curves:  []api.Curve{{Kind: 1, Table: []int{1}, Segments: []api.Segment{{Till: 2}}}},
		Rows:    [][]int{{1, 2}, {3}},
		Offset:  []int{4},
		Grid:    api.Grid{Size: []int{5}, Out: 6, Data: []int{7}},
		Program: []api.Op{{Code: 8, Arg: 9}},
		In:      10, Out: 11,
	}}}
}

func TestChain(t *testing.T) {
	c := example()
	d := Chain(c)
	if !reflect.DeepEqual(c, d) {
		t.Fatalf("%v, not %v", d, c)
	}
	x := &d.Elements[0]
	x.Kind = 0
	x.Curves[0].Table[0] = 0
	x.Curves[0].Segments[0].Till = 0
	x.Curves[0].Kind = 0
	x.Rows[0][0] = 0
	x.Rows[1] = nil
	x.Offset[0] = 0
	x.Grid.Size[0] = 0
	x.Grid.Data[0] = 0
	x.Program[0].Arg = 0
	if !reflect.DeepEqual(c, example()) {
		t.Fatalf("the copy shares memory: %v", c)
	}
}
