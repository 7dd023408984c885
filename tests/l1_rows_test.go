package tests

import (
	"math"
	"reflect"
	"sort"
	"strconv"
	"strings"
	"testing"

	"loop.example/g00894/impl"
)

const rounds8 = "12345678"

func mustTimes(t *testing.T, a, b string) string {
	t.Helper()
	r, ok := impl.Times(a, b)
	if !ok {
		t.Fatalf("Times(%q, %q) fails", a, b)
	}
	return r
}

// plainProduct is the product by the words of the document.
func plainProduct(a, b string) string {
	r := ""
	for i := range b {
		place := int(b[i] - '0')
		r += a[place-1 : place]
	}
	return r
}

func swapsToSort(r string) int {
	b := []byte(r)
	swaps := 0
	for i := range b {
		for j := range len(b) - 1 - i {
			if b[j] > b[j+1] {
				b[j], b[j+1] = b[j+1], b[j]
				swaps++
			}
		}
	}
	return swaps
}

func TestStageLimits(t *testing.T) {
	if impl.MinStage != 3 || impl.MaxStage != 8 || impl.MaxRows != 800 {
		t.Error("limits", impl.MinStage, impl.MaxStage, impl.MaxRows)
	}
}

func TestGoodRowTakesEveryRow(t *testing.T) {
	for n := 3; n <= 8; n++ {
		for _, r := range rowsOf(n) {
			if !impl.GoodRow(r) {
				t.Fatalf("GoodRow(%q) is false", r)
			}
		}
	}
}

func TestGoodRowRefusesOtherStrings(t *testing.T) {
	for _, s := range badRows() {
		if impl.GoodRow(s) {
			t.Errorf("GoodRow(%q) is true", s)
		}
	}
}

func TestGoodRowOnShortStrings(t *testing.T) {
	rows := map[string]bool{}
	for n := 3; n <= 8; n++ {
		for _, r := range rowsOf(n) {
			rows[r] = true
		}
	}
	alphabet := "/012345:"
	var visit func(s string)
	visit = func(s string) {
		if impl.GoodRow(s) != rows[s] {
			t.Fatalf("GoodRow(%q) is %v", s, !rows[s])
		}
		if len(s) < 5 {
			for _, c := range alphabet {
				visit(s + string(c))
			}
		}
	}
	visit("")
}

func TestRoundsOf(t *testing.T) {
	for n := 3; n <= 8; n++ {
		if r, ok := impl.RoundsOf(n); !ok || r != rounds8[:n] {
			t.Errorf("RoundsOf(%d) is %q, %v", n, r, ok)
		}
	}
	for _, n := range []int{math.MinInt, -8, -3, -1, 0, 1, 2, 9, 10, 300, math.MaxInt} {
		if r, ok := impl.RoundsOf(n); ok || r != "" {
			t.Errorf("RoundsOf(%d) is %q, %v", n, r, ok)
		}
	}
}

func TestTimesSelectsPlacesOfFirstFactor(t *testing.T) {
	if r := mustTimes(t, "2143", "1324"); r != "2413" {
		t.Error("2143 * 1324 is", r)
	}
	if r := mustTimes(t, "1324", "2143"); r != "3142" {
		t.Error("1324 * 2143 is", r)
	}
	for n := 3; n <= 8; n++ {
		rows := someRows(n, 200)
		for _, a := range rows {
			for _, b := range rows {
				if r := mustTimes(t, a, b); r != plainProduct(a, b) {
					t.Fatalf("%s * %s is %s", a, b, r)
				}
			}
		}
	}
}

func TestTimesIsAssociative(t *testing.T) {
	for n := 3; n <= 8; n++ {
		rows := someRows(n, 24)
		for _, a := range rows {
			for _, b := range rows {
				for _, c := range rows {
					left := mustTimes(t, mustTimes(t, a, b), c)
					right := mustTimes(t, a, mustTimes(t, b, c))
					if left != right {
						t.Fatalf("(%s %s) %s is %s, %s (%s %s) is %s", a, b, c, left, a, b, c, right)
					}
				}
			}
		}
	}
}

func TestRoundsIsIdentityAndTurnRowInverse(t *testing.T) {
	for n := 3; n <= 8; n++ {
		rounds := rounds8[:n]
		for _, a := range rowsOf(n) {
			if mustTimes(t, a, rounds) != a || mustTimes(t, rounds, a) != a {
				t.Fatalf("rounds changes %s", a)
			}
			inverse, ok := impl.TurnRow(a)
			if !ok || mustTimes(t, a, inverse) != rounds || mustTimes(t, inverse, a) != rounds {
				t.Fatalf("TurnRow(%s) is %q, %v", a, inverse, ok)
			}
		}
	}
	if r, _ := impl.TurnRow("2314"); r != "3124" {
		t.Error("TurnRow(2314) is", r)
	}
}

func TestTimesNeedsTwoRowsOfOneStage(t *testing.T) {
	for n := 3; n <= 8; n++ {
		for k := 3; k <= 8; k++ {
			if r, ok := impl.Times(rounds8[:n], rounds8[:k]); ok != (n == k) || (r != "") != ok {
				t.Errorf("Times of stages %d and %d: %q, %v", n, k, r, ok)
			}
		}
	}
	for _, bad := range badRows() {
		others := []string{"123", "4321", "87654321", bad}
		for _, other := range others {
			if r, ok := impl.Times(bad, other); ok || r != "" {
				t.Errorf("Times(%q, %q) is %q, %v", bad, other, r, ok)
			}
			if r, ok := impl.Times(other, bad); ok || r != "" {
				t.Errorf("Times(%q, %q) is %q, %v", other, bad, r, ok)
			}
		}
	}
}

func TestPowersFromLeastToGreatest(t *testing.T) {
	rows := []string{"123", "321", "231", "2314", "23451", "214365", "2143675", "12345678", "23456781", "23156784", "23156748", "87654321"}
	for _, a := range rows {
		up, down := rounds8[:len(a)], rounds8[:len(a)]
		inverse, _ := impl.TurnRow(a)
		for k := 0; k <= 1000; k++ {
			if r, ok := impl.PowerOf(a, k); !ok || r != up {
				t.Fatalf("PowerOf(%s, %d) is %q, %v and not %s", a, k, r, ok, up)
			}
			if r, ok := impl.PowerOf(a, -k); !ok || r != down {
				t.Fatalf("PowerOf(%s, %d) is %q, %v and not %s", a, -k, r, ok, down)
			}
			up, down = plainProduct(up, a), plainProduct(down, inverse)
		}
	}
}

func TestPowerOfRefusesOtherExponents(t *testing.T) {
	for _, k := range []int{math.MinInt, math.MinInt + 1, -5000, -1001, 1001, 5000, math.MaxInt} {
		for _, a := range []string{"123", "2314", "87654321"} {
			if r, ok := impl.PowerOf(a, k); ok || r != "" {
				t.Errorf("PowerOf(%s, %d) is %q, %v", a, k, r, ok)
			}
		}
	}
}

func TestOrderIsTheLeastPowerThatIsRounds(t *testing.T) {
	for n := 3; n <= 8; n++ {
		for _, a := range rowsOf(n) {
			want := 1
			for power := a; power != rounds8[:n]; power = plainProduct(power, a) {
				want++
			}
			if k, ok := impl.OrderOf(a); !ok || k != want {
				t.Fatalf("OrderOf(%s) is %d, %v and not %d", a, k, ok, want)
			}
		}
	}
	for a, want := range map[string]int{"123": 1, "2314": 3, "23156748": 12, "23156784": 15, "23456781": 8, "21453": 6} {
		if k, _ := impl.OrderOf(a); k != want {
			t.Errorf("OrderOf(%s) is %d", a, k)
		}
	}
}

func TestIsEvenCountsInversions(t *testing.T) {
	for n := 3; n <= 8; n++ {
		for _, a := range rowsOf(n) {
			if even, ok := impl.IsEven(a); !ok || even != (swapsToSort(a)%2 == 0) {
				t.Fatalf("IsEven(%s) is %v, %v", a, even, ok)
			}
		}
	}
}

func TestSignsAreMultiplicative(t *testing.T) {
	for n := 3; n <= 8; n++ {
		rows := someRows(n, 120)
		for _, a := range rows {
			for _, b := range rows {
				evenA, _ := impl.IsEven(a)
				evenB, _ := impl.IsEven(b)
				even, ok := impl.IsEven(mustTimes(t, a, b))
				if !ok || even != (evenA == evenB) {
					t.Fatalf("%s * %s: signs %v and %v give %v", a, b, evenA, evenB, even)
				}
			}
		}
	}
}

func TestCyclesOfKnownRows(t *testing.T) {
	known := map[string][][]int{
		"2314":     {{1, 2, 3}},
		"3124":     {{1, 3, 2}},
		"321":      {{1, 3}},
		"2143":     {{1, 2}, {3, 4}},
		"1324":     {{2, 3}},
		"23156748": {{1, 2, 3}, {4, 5, 6, 7}},
		"87654321": {{1, 8}, {2, 7}, {3, 6}, {4, 5}},
		"83456712": {{1, 8, 2, 3, 4, 5, 6, 7}},
	}
	for a, want := range known {
		if cycles, ok := impl.CyclesOf(a); !ok || !reflect.DeepEqual(cycles, want) {
			t.Errorf("CyclesOf(%s) is %v, %v and not %v", a, cycles, ok, want)
		}
	}
	for n := 3; n <= 8; n++ {
		if cycles, ok := impl.CyclesOf(rounds8[:n]); !ok || len(cycles) != 0 {
			t.Errorf("CyclesOf(%s) is %v, %v", rounds8[:n], cycles, ok)
		}
	}
}

func TestCyclesRebuildTheRow(t *testing.T) {
	for n := 3; n <= 8; n++ {
		for _, a := range rowsOf(n) {
			cycles, ok := impl.CyclesOf(a)
			if !ok {
				t.Fatalf("CyclesOf(%s) fails", a)
			}
			row := []byte(rounds8[:n])
			last := 0
			for _, cycle := range cycles {
				if len(cycle) < 2 || cycle[0] <= last {
					t.Fatalf("CyclesOf(%s) is %v", a, cycles)
				}
				last = cycle[0]
				for i, bell := range cycle {
					if bell < cycle[0] {
						t.Fatalf("CyclesOf(%s) is %v", a, cycles)
					}
					row[bell-1] = byte('0' + cycle[(i+1)%len(cycle)])
				}
			}
			if string(row) != a {
				t.Fatalf("CyclesOf(%s) is %v, which makes %s", a, cycles, row)
			}
		}
	}
}

func TestCyclesShareNoMemory(t *testing.T) {
	first, _ := impl.CyclesOf("21436587")
	for i := range first {
		grown := append(first[i], 9, 9)
		grown[0] = 9
	}
	again, _ := impl.CyclesOf("21436587")
	if !reflect.DeepEqual(again, [][]int{{1, 2}, {3, 4}, {5, 6}, {7, 8}}) {
		t.Error("a later result is changed:", again)
	}
	fresh, _ := impl.CyclesOf("21436587")
	_ = append(fresh[0], 9, 9, 9, 9)
	fresh[0][0] = 9
	if !reflect.DeepEqual(fresh[1:], [][]int{{3, 4}, {5, 6}, {7, 8}}) {
		t.Error("cycles of one result share memory:", fresh)
	}
}

func TestRanksCountRowsInOrder(t *testing.T) {
	for n := 3; n <= 8; n++ {
		rows := rowsOf(n)
		if !sort.StringsAreSorted(rows) {
			t.Fatal("rows out of order")
		}
		for k, want := range rows {
			if r, ok := impl.RowOf(n, k); !ok || r != want {
				t.Fatalf("RowOf(%d, %d) is %q, %v and not %s", n, k, r, ok, want)
			}
			if place, ok := impl.PlaceOfRow(want); !ok || place != k {
				t.Fatalf("PlaceOfRow(%s) is %d, %v and not %d", want, place, ok, k)
			}
		}
	}
}

func TestRowOfFirstAndLastRank(t *testing.T) {
	counts := map[int]int{3: 6, 4: 24, 5: 120, 6: 720, 7: 5040, 8: 40320}
	for n, count := range counts {
		last := "87654321"[8-n:]
		if r, ok := impl.RowOf(n, 0); !ok || r != rounds8[:n] {
			t.Errorf("RowOf(%d, 0) is %q, %v", n, r, ok)
		}
		if r, ok := impl.RowOf(n, count-1); !ok || r != last {
			t.Errorf("RowOf(%d, %d) is %q, %v", n, count-1, r, ok)
		}
		for _, k := range []int{math.MinInt, -count, -1, count, count + 1, 40320, math.MaxInt} {
			if r, ok := impl.RowOf(n, k); ok || r != "" {
				t.Errorf("RowOf(%d, %d) is %q, %v", n, k, r, ok)
			}
		}
	}
	for _, n := range []int{math.MinInt, -3, -1, 0, 1, 2, 9, 21, math.MaxInt} {
		for _, k := range []int{math.MinInt, -1, 0, 1, math.MaxInt} {
			if r, ok := impl.RowOf(n, k); ok || r != "" {
				t.Errorf("RowOf(%d, %d) is %q, %v", n, k, r, ok)
			}
		}
	}
}

func TestInvalidRowsGiveZeroValues(t *testing.T) {
	for _, s := range badRows() {
		if r, ok := impl.TurnRow(s); ok || r != "" {
			t.Errorf("TurnRow(%q) is %q, %v", s, r, ok)
		}
		for _, k := range []int{-1001, -1000, -1, 0, 1, 1000, 1001} {
			if r, ok := impl.PowerOf(s, k); ok || r != "" {
				t.Errorf("PowerOf(%q, %d) is %q, %v", s, k, r, ok)
			}
		}
		if k, ok := impl.OrderOf(s); ok || k != 0 {
			t.Errorf("OrderOf(%q) is %d, %v", s, k, ok)
		}
		if even, ok := impl.IsEven(s); ok || even {
			t.Errorf("IsEven(%q) is %v, %v", s, even, ok)
		}
		if cycles, ok := impl.CyclesOf(s); ok || len(cycles) != 0 {
			t.Errorf("CyclesOf(%q) is %v, %v", s, cycles, ok)
		}
		if k, ok := impl.PlaceOfRow(s); ok || k != 0 {
			t.Errorf("PlaceOfRow(%q) is %d, %v", s, k, ok)
		}
	}
}

// callRowFunctions calls every function of chapter 1 and returns what they return.
func callRowFunctions(a, b string, n, k int) []any {
	rounds, ok1 := impl.RoundsOf(n)
	product, ok2 := impl.Times(a, b)
	turned, ok3 := impl.TurnRow(a)
	power, ok4 := impl.PowerOf(a, k)
	order, ok5 := impl.OrderOf(a)
	even, ok6 := impl.IsEven(a)
	cycles, ok7 := impl.CyclesOf(a)
	row, ok8 := impl.RowOf(n, k)
	place, ok9 := impl.PlaceOfRow(a)
	return []any{impl.GoodRow(a), rounds, ok1, product, ok2, turned, ok3, power, ok4, order, ok5, even, ok6, cycles, ok7, row, ok8, place, ok9}
}

func TestRowFunctionsAcceptAllArguments(t *testing.T) {
	texts := append(badRows(), "123", "132", "4321", "21436587", "23156748")
	numbers := []int{math.MinInt, -1001, -1000, -1, 0, 1, 2, 3, 8, 9, 23, 24, 1000, 1001, 40319, 40320, math.MaxInt}
	for _, a := range texts {
		for _, b := range texts {
			keptA, keptB := strings.Clone(a), strings.Clone(b)
			for _, k := range numbers {
				n := len(b)
				first := callRowFunctions(a, b, n, k)
				if again := callRowFunctions(a, b, n, k); !reflect.DeepEqual(first, again) {
					t.Fatalf("calls with %q, %q, %d, %d return %v and then %v", a, b, n, k, first, again)
				}
			}
			if a != keptA || b != keptB {
				t.Fatalf("arguments %q and %q are changed", keptA, keptB)
			}
		}
	}
}

func FuzzRowFunctions(f *testing.F) {
	for i, s := range badRows() {
		f.Add(s, strconv.Itoa(i), i, i)
	}
	f.Add("2143", "1324", 4, 23)
	f.Fuzz(func(t *testing.T, a, b string, n, k int) {
		callRowFunctions(a, b, n, k)
	})
}
