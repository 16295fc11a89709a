package action_test

import (
	"math"
	"regexp"
	"strconv"
	"strings"
	"testing"

	"umbral/action"
	"umbral/api"
)

func within(n, least, most int) bool { return least <= n && n <= most }

func pointer(n int) bool { return within(n, 0, 23) }

func pointerOrNull(n int) bool { return within(n, -1, 23) }

func record(n int) bool { return within(n, 0, 7) }

func operand(o api.Operand) bool {
	return within(o.Var, 0, 23) && o.N == 0 || o.Var == -1 && within(o.N, 0, 999999999)
}

// canBe is what Right is to tell, kind by kind: z is an action that has what the kind has, and nothing else.
func canBe(a api.Action) bool {
	z := api.Action{Kind: a.Kind, At: a.At}
	fits := within(a.At, 0, 65536)
	switch a.Kind {
	case 0:
	case 1, 7:
		z.X = a.X
		fits = fits && pointer(a.X)
	case 2:
		z.X, z.Y = a.X, a.Y
		fits = fits && pointer(a.X) && pointer(a.Y)
	case 3, 5:
		z.X, z.Y, z.F = a.X, a.Y, a.F
		fits = fits && pointer(a.X) && pointer(a.Y) && record(a.F)
	case 4:
		z.X, z.F = a.X, a.F
		fits = fits && pointer(a.X) && record(a.F)
	case 6:
		z.X, z.T = a.X, a.T
		fits = fits && pointer(a.X) && record(a.T)
	case 8:
		z.X, z.Y, z.Sense = a.X, a.Y, a.Sense
		fits = fits && pointerOrNull(a.X) && pointerOrNull(a.Y)
	case 9:
		z.Sense = a.Sense
	case 10:
		z.X = a.X
		fits = fits && within(a.X, 0, 23)
	case 11:
		z.X, z.Op, z.L = a.X, a.Op, a.L
		fits = fits && within(a.X, 0, 23) && within(a.Op, 0, 2) && operand(a.L)
		if a.Op != 0 {
			z.R = a.R
			fits = fits && operand(a.R)
		}
	case 12:
		z.Op, z.L, z.R, z.Sense = a.Op, a.L, a.R, a.Sense
		fits = fits && within(a.Op, 0, 1) && operand(a.L) && operand(a.R)
	default:
		return false
	}
	return fits && a == z
}

// textOf is what Text is to tell.
func textOf(a api.Action) string {
	if !canBe(a) {
		return ""
	}
	digits := strconv.Itoa
	p := func(n int) string {
		if n == -1 {
			return " null"
		}
		return " p" + digits(n)
	}
	side := func(o api.Operand) string {
		if o.Var == -1 {
			return " " + digits(o.N)
		}
		return " i" + digits(o.Var)
	}
	text := strings.Fields("skip null copy load cut link new free same pick take put test")[a.Kind]
	switch a.Kind {
	case 1, 7:
		text += p(a.X)
	case 2, 8:
		text += p(a.X) + p(a.Y)
	case 3:
		text += p(a.X) + p(a.Y) + " f" + digits(a.F)
	case 4:
		text += p(a.X) + " f" + digits(a.F)
	case 5:
		text += p(a.X) + " f" + digits(a.F) + p(a.Y)
	case 6:
		text += p(a.X) + " s" + digits(a.T)
	case 10:
		text += " i" + digits(a.X)
	case 11:
		text += " i" + digits(a.X) + side(a.L)
		if a.Op != 0 {
			text += []string{"", " +", " -"}[a.Op] + side(a.R)
		}
	case 12:
		text += side(a.L) + []string{" ==", " <"}[a.Op] + side(a.R)
	}
	if a.Kind == 8 || a.Kind == 9 || a.Kind == 12 {
		text += map[bool]string{false: " no", true: " yes"}[a.Sense]
	}
	return text + " @" + digits(a.At)
}

// texts is what the Texts of all Right actions look like.
var texts = regexp.MustCompile(strings.NewReplacer(
	"P", `p([0-9]|1[0-9]|2[0-3])`,
	"Q", `(null|p([0-9]|1[0-9]|2[0-3]))`,
	"I", `i([0-9]|1[0-9]|2[0-3])`,
	"O", `(i([0-9]|1[0-9]|2[0-3])|0|[1-9][0-9]{0,8})`,
	"F", `f[0-7]`,
	"T", `s[0-7]`,
	"B", `(yes|no)`,
	"AT", `@(0|[1-9][0-9]{0,3}|[1-5][0-9]{4}|6[0-4][0-9]{3}|65[0-4][0-9]{2}|655[0-2][0-9]|6553[0-6])`,
).Replace(`\A(skip|null P|copy P P|load P P F|cut P F|link P F P|new P T|free P|same Q Q B|pick B|take I|put I O( [+-] O)?|test O (==|<) O B) AT\z`))

// kinds are those of api, and some that are none.
func kinds() []int {
	l := []int{math.MinInt, -13, -1, 13, 14, 255, 256, 1 << 32, math.MaxInt}
	for kind := range 13 {
		l = append(l, kind)
	}
	return l
}

// edges are the numbers at which something may end.
func edges() []int {
	return []int{math.MinInt, -2, -1, 0, 1, 2, 3, 6, 7, 8, 22, 23, 24, 65535, 65536, 65537, 999999998, 999999999, 1000000000, 1 << 32, math.MaxInt}
}

// slots leads to all numbers of a but its Kind.
func slots(a *api.Action) []*int {
	return []*int{&a.X, &a.Y, &a.F, &a.T, &a.At, &a.Op, &a.L.Var, &a.L.N, &a.R.Var, &a.R.N}
}

// sample is a Right action, and its Text.
type sample struct {
	act  api.Action
	text string
}

func variable(n int) api.Operand { return api.Operand{Var: n} }

func number(n int) api.Operand { return api.Operand{Var: -1, N: n} }

// samples holds ordinary actions of each kind, and those at the edges.
func samples() []sample {
	return []sample{
		{api.Action{}, "skip @0"},
		{api.Action{Kind: api.DoSkip, At: 12}, "skip @12"},
		{api.Action{Kind: api.DoSkip, At: 65536}, "skip @65536"},
		{api.Action{Kind: api.DoNull}, "null p0 @0"},
		{api.Action{Kind: api.DoNull, X: 23, At: 65536}, "null p23 @65536"},
		{api.Action{Kind: api.DoCopy, X: 1, Y: 2, At: 3}, "copy p1 p2 @3"},
		{api.Action{Kind: api.DoCopy, X: 23, At: 10}, "copy p23 p0 @10"},
		{api.Action{Kind: api.DoCopy, Y: 23, At: 100}, "copy p0 p23 @100"},
		{api.Action{Kind: api.DoLoad, X: 1, Y: 2, At: 7}, "load p1 p2 f0 @7"},
		{api.Action{Kind: api.DoLoad, X: 22, Y: 23, F: 7, At: 65535}, "load p22 p23 f7 @65535"},
		{api.Action{Kind: api.DoCut, X: 4, F: 5, At: 6}, "cut p4 f5 @6"},
		{api.Action{Kind: api.DoCut, X: 23, F: 7}, "cut p23 f7 @0"},
		{api.Action{Kind: api.DoLink, X: 1, Y: 2, F: 3, At: 4}, "link p1 f3 p2 @4"},
		{api.Action{Kind: api.DoLink, X: 23, Y: 20, F: 7, At: 9999}, "link p23 f7 p20 @9999"},
		{api.Action{Kind: api.DoNew, X: 8, T: 6, At: 7}, "new p8 s6 @7"},
		{api.Action{Kind: api.DoNew, X: 23, T: 7}, "new p23 s7 @0"},
		{api.Action{Kind: api.DoFree, X: 9, At: 5}, "free p9 @5"},
		{api.Action{Kind: api.DoFree, X: 23, At: 1}, "free p23 @1"},
		{api.Action{Kind: api.DoSame, X: 3, Y: 5, At: 8}, "same p3 p5 no @8"},
		{api.Action{Kind: api.DoSame, X: 3, Y: 5, At: 8, Sense: true}, "same p3 p5 yes @8"},
		{api.Action{Kind: api.DoSame, X: -1, Y: 23, At: 2}, "same null p23 no @2"},
		{api.Action{Kind: api.DoSame, X: 23, Y: -1, At: 2, Sense: true}, "same p23 null yes @2"},
		{api.Action{Kind: api.DoSame, X: -1, Y: -1, Sense: true}, "same null null yes @0"},
		{api.Action{Kind: api.DoSame}, "same p0 p0 no @0"},
		{api.Action{Kind: api.DoPick}, "pick no @0"},
		{api.Action{Kind: api.DoPick, At: 65536, Sense: true}, "pick yes @65536"},
		{api.Action{Kind: api.DoTake, At: 3}, "take i0 @3"},
		{api.Action{Kind: api.DoTake, X: 23, At: 30}, "take i23 @30"},
		{api.Action{Kind: api.DoPut}, "put i0 i0 @0"},
		{api.Action{Kind: api.DoPut, X: 4, L: number(7), At: 9}, "put i4 7 @9"},
		{api.Action{Kind: api.DoPut, X: 23, L: number(0)}, "put i23 0 @0"},
		{api.Action{Kind: api.DoPut, X: 23, L: variable(23), At: 65536}, "put i23 i23 @65536"},
		{api.Action{Kind: api.DoPut, X: 1, Op: 1, L: variable(2), R: variable(3), At: 4}, "put i1 i2 + i3 @4"},
		{api.Action{Kind: api.DoPut, X: 1, Op: 1, L: number(999999999), R: number(1), At: 4}, "put i1 999999999 + 1 @4"},
		{api.Action{Kind: api.DoPut, X: 1, Op: 1}, "put i1 i0 + i0 @0"},
		{api.Action{Kind: api.DoPut, X: 5, Op: 2, L: variable(23), R: number(999999999), At: 6}, "put i5 i23 - 999999999 @6"},
		{api.Action{Kind: api.DoPut, X: 5, Op: 2, L: number(0), R: variable(0), At: 6}, "put i5 0 - i0 @6"},
		{api.Action{Kind: api.DoTest, Op: 1, R: number(3), At: 4}, "test i0 < 3 no @4"},
		{api.Action{Kind: api.DoTest, Op: 1, L: number(999999999), R: variable(23), At: 4, Sense: true}, "test 999999999 < i23 yes @4"},
		{api.Action{Kind: api.DoTest}, "test i0 == i0 no @0"},
		{api.Action{Kind: api.DoTest, L: number(123456789), R: number(0), At: 65536, Sense: true}, "test 123456789 == 0 yes @65536"},
		{api.Action{Kind: api.DoTest, L: variable(10), R: variable(9), At: 65536}, "test i10 == i9 no @65536"},
	}
}

// holdAction holds all calls of an action against the model, and that it leads back from its Text.
func holdAction(t *testing.T, a api.Action) {
	t.Helper()
	handed := a
	if got, want := action.Right(a), canBe(a); got != want {
		t.Errorf("Right(%+v): %v", a, got)
	}
	text := action.Text(a)
	if want := textOf(a); text != want {
		t.Errorf("Text(%+v): %q, want %q", a, text, want)
	}
	if text != "" {
		if back, err := action.Parse(text); back != a || err != api.OK {
			t.Errorf("Parse(%q): %+v, %v, want %+v", text, back, err, a)
		}
	}
	if a != handed {
		t.Errorf("%+v is now %+v", handed, a)
	}
}

// holdText holds Parse of a text against what Texts look like, and that what is read has just that Text.
func holdText(t *testing.T, s string) {
	t.Helper()
	a, err := action.Parse(s)
	if !texts.MatchString(s) {
		if a != (api.Action{}) || err != api.ErrBad {
			t.Errorf("Parse(%q): %+v, %v, want ErrBad", s, a, err)
		}
		return
	}
	if err != api.OK || !canBe(a) || textOf(a) != s || action.Text(a) != s {
		t.Errorf("Parse(%q): %+v, %v, of which the Text is %q", s, a, err, action.Text(a))
	}
	if again, err := action.Parse(s); again != a || err != api.OK {
		t.Errorf("Parse(%q) again: %+v, %v, but %+v ahead of it", s, again, err, a)
	}
}
