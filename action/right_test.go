package action_test

import (
	"math"
	"testing"

	"umbral/action"
	"umbral/api"
)

func holdRight(t *testing.T, want bool, of ...api.Action) {
	t.Helper()
	for _, a := range of {
		if got := action.Right(a); got != want {
			t.Errorf("Right(%+v): %v", a, got)
		}
	}
}

// P11.1
func TestRightOfSamples(t *testing.T) {
	for _, s := range samples() {
		holdRight(t, true, s.act)
	}
}

func TestRightOfKinds(t *testing.T) {
	for _, kind := range kinds() {
		holdRight(t, 0 <= kind && kind <= 12, api.Action{Kind: kind}, api.Action{Kind: kind, At: 65536})
	}
}

func TestRightOfPlaces(t *testing.T) {
	for _, s := range samples() {
		for _, at := range []int{0, 1, 65535, 65536} {
			s.act.At = at
			holdRight(t, true, s.act)
		}
		for _, at := range []int{-1, 65537, math.MinInt, math.MaxInt} {
			s.act.At = at
			holdRight(t, false, s.act)
		}
	}
}

// span is a number that a kind has, by its place in slots, with its least and its greatest value.
type span struct {
	act         api.Action
	slot        int
	least, most int
}

const (
	slotX = iota
	slotY
	slotF
	slotT
	slotAt
	slotOp
	slotLVar
	slotLN
	slotRVar
	slotRN
)

func TestRightOfNumbers(t *testing.T) {
	sum := api.Action{Kind: api.DoPut, Op: 1}
	less := api.Action{Kind: api.DoPut, Op: 2}
	for _, s := range []span{
		{api.Action{Kind: api.DoNull}, slotX, 0, 23},
		{api.Action{Kind: api.DoCopy}, slotX, 0, 23},
		{api.Action{Kind: api.DoCopy}, slotY, 0, 23},
		{api.Action{Kind: api.DoLoad}, slotX, 0, 23},
		{api.Action{Kind: api.DoLoad}, slotY, 0, 23},
		{api.Action{Kind: api.DoLoad}, slotF, 0, 7},
		{api.Action{Kind: api.DoCut}, slotX, 0, 23},
		{api.Action{Kind: api.DoCut}, slotF, 0, 7},
		{api.Action{Kind: api.DoLink}, slotX, 0, 23},
		{api.Action{Kind: api.DoLink}, slotY, 0, 23},
		{api.Action{Kind: api.DoLink}, slotF, 0, 7},
		{api.Action{Kind: api.DoNew}, slotX, 0, 23},
		{api.Action{Kind: api.DoNew}, slotT, 0, 7},
		{api.Action{Kind: api.DoFree}, slotX, 0, 23},
		{api.Action{Kind: api.DoSame}, slotX, -1, 23},
		{api.Action{Kind: api.DoSame}, slotY, -1, 23},
		{api.Action{Kind: api.DoTake}, slotX, 0, 23},
		{api.Action{Kind: api.DoPut}, slotX, 0, 23},
		{api.Action{Kind: api.DoPut}, slotOp, 0, 2},
		{api.Action{Kind: api.DoPut}, slotLVar, -1, 23},
		{api.Action{Kind: api.DoPut, L: number(5)}, slotLN, 0, 999999999},
		{sum, slotX, 0, 23},
		{sum, slotLVar, -1, 23},
		{sum, slotRVar, -1, 23},
		{api.Action{Kind: api.DoPut, Op: 1, R: number(5)}, slotRN, 0, 999999999},
		{less, slotRVar, -1, 23},
		{api.Action{Kind: api.DoPut, Op: 2, R: number(5)}, slotRN, 0, 999999999},
		{api.Action{Kind: api.DoTest}, slotOp, 0, 1},
		{api.Action{Kind: api.DoTest}, slotLVar, -1, 23},
		{api.Action{Kind: api.DoTest}, slotRVar, -1, 23},
		{api.Action{Kind: api.DoTest, L: number(5)}, slotLN, 0, 999999999},
		{api.Action{Kind: api.DoTest, R: number(5)}, slotRN, 0, 999999999},
	} {
		for _, n := range []int{s.least, s.least + 1, s.most - 1, s.most} {
			a := s.act
			*slots(&a)[s.slot] = n
			holdRight(t, true, a)
		}
		for _, n := range []int{s.least - 1, s.most + 1, math.MinInt, math.MaxInt} {
			a := s.act
			*slots(&a)[s.slot] = n
			holdRight(t, false, a)
		}
	}
}

// A variable has no number beside it.
func TestRightOfVariablesWithNumbers(t *testing.T) {
	for _, n := range []int{-1, 1, 999999999, 1000000000, math.MinInt, math.MaxInt} {
		for _, v := range []int{0, 1, 23} {
			o := api.Operand{Var: v, N: n}
			holdRight(t, false,
				api.Action{Kind: api.DoPut, L: o},
				api.Action{Kind: api.DoPut, Op: 1, L: o},
				api.Action{Kind: api.DoPut, Op: 1, R: o},
				api.Action{Kind: api.DoPut, Op: 2, R: o},
				api.Action{Kind: api.DoTest, L: o},
				api.Action{Kind: api.DoTest, Op: 1, R: o})
		}
	}
}

// What a kind does not have is zero.
func TestRightOfWhatKindsDoNotHave(t *testing.T) {
	has := [][]int{
		api.DoSkip: {slotAt},
		api.DoNull: {slotX, slotAt},
		api.DoCopy: {slotX, slotY, slotAt},
		api.DoLoad: {slotX, slotY, slotF, slotAt},
		api.DoCut:  {slotX, slotF, slotAt},
		api.DoLink: {slotX, slotY, slotF, slotAt},
		api.DoNew:  {slotX, slotT, slotAt},
		api.DoFree: {slotX, slotAt},
		api.DoSame: {slotX, slotY, slotAt},
		api.DoPick: {slotAt},
		api.DoTake: {slotX, slotAt},
		api.DoPut:  {slotX, slotAt, slotOp, slotLVar, slotLN},
		api.DoTest: {slotAt, slotOp, slotLVar, slotLN, slotRVar, slotRN},
	}
	for kind, l := range has {
		var in [10]bool
		for _, slot := range l {
			in[slot] = true
		}
		for slot := range in {
			for _, n := range []int{-1, 1, 7, math.MinInt, math.MaxInt} {
				a := api.Action{Kind: kind}
				*slots(&a)[slot] = n
				if !in[slot] {
					holdRight(t, false, a)
				}
			}
		}
		holdRight(t, kind == api.DoSame || kind == api.DoPick || kind == api.DoTest, api.Action{Kind: kind, Sense: true})
	}
}

// R is there of Op 1 and 2 alone.
func TestRightOfPutWithoutR(t *testing.T) {
	for _, r := range []api.Operand{variable(1), variable(-1), variable(23), number(1), number(999999999), {N: 1}} {
		holdRight(t, false, api.Action{Kind: api.DoPut, R: r}, api.Action{Kind: api.DoPut, X: 3, L: number(4), R: r, At: 5})
	}
	for _, r := range []api.Operand{variable(1), variable(23), number(0), number(999999999)} {
		holdRight(t, true, api.Action{Kind: api.DoPut, Op: 1, R: r}, api.Action{Kind: api.DoPut, Op: 2, R: r})
	}
}

// Each two numbers of each sample at all edges, with each kind.
func TestAllEdges(t *testing.T) {
	for _, s := range samples() {
		for i := range slots(&s.act) {
			for j := range i + 1 {
				for _, m := range edges() {
					for _, n := range edges() {
						a := s.act
						*slots(&a)[i] = m
						*slots(&a)[j] = n
						holdAction(t, a)
					}
				}
			}
		}
	}
}

func TestAllKindsOfSamples(t *testing.T) {
	for _, s := range samples() {
		for _, kind := range kinds() {
			for _, sense := range []bool{false, true} {
				a := s.act
				a.Kind, a.Sense = kind, sense
				holdAction(t, a)
				for i := range slots(&a) {
					for _, n := range edges() {
						b := a
						*slots(&b)[i] = n
						holdAction(t, b)
					}
				}
			}
		}
	}
}
