package tests

import (
	"math"
	"math/rand"
	"reflect"
	"slices"
	"strings"
	"testing"

	"loop.example/g00894/impl"
)

// plainTouch rings a touch row by row: it returns the row at the start of every lead and after the last, and the rows of all leads.
func plainTouch(m impl.Method, k impl.Calls, touch string) (heads, rows []string) {
	heads = []string{rounds8[:m.Stage]}
	for _, call := range strings.Split(touch, "") {
		lead := plainLead(plainCalled(m, k, call), heads[len(heads)-1])
		rows = append(rows, lead[:len(m.Changes)]...)
		heads = append(heads, lead[len(m.Changes)])
	}
	return heads, rows
}

// plainTurns is all rotations of a touch, from that by 0 on.
func plainTurns(touch string) []string {
	var turns []string
	for range touch {
		turns = append(turns, touch)
		touch = touch[1:] + touch[:1]
	}
	return turns
}

// plainReversed is a touch with all calls but the last read from right to left.
func plainReversed(touch string) string {
	last := len(touch) - 1
	reversed := ""
	for _, call := range touch[:last] {
		reversed = string(call) + reversed
	}
	return reversed + touch[last:]
}

func plainIsTouch(touch string) bool {
	return len(touch) >= 1 && len(touch) <= 60 && strings.Trim(touch, "pbs") == ""
}

// shortTouches are all touches of a length.
func shortTouches(length int) []string {
	touches := []string{""}
	for range length {
		var longer []string
		for _, touch := range touches {
			for _, call := range letters {
				longer = append(longer, touch+call)
			}
		}
		touches = longer
	}
	return touches
}

// randomTouches makes some touches of each length from 1 to 60, the same ones in every run.
func randomTouches(each int) []string {
	source := rand.New(rand.NewSource(9))
	var touches []string
	for length := 1; length <= 60; length++ {
		for range each {
			touch := ""
			for range length {
				touch += letters[source.Intn(3)]
			}
			touches = append(touches, touch)
		}
	}
	return touches
}

// turningTouches are touches some of whose rotations are alike or nearly alike.
func turningTouches() []string {
	var touches []string
	for length := 1; length <= 60; length++ {
		for _, call := range letters {
			same := strings.Repeat(call, length)
			touches = append(touches, same)
			for i, other := range letters {
				touches = append(touches, same[1:]+other, other+same[1:], same[:length/2]+letters[i]+same[length/2+1:length])
			}
		}
		for _, part := range shortTouches(3) {
			if length%3 == 0 {
				touches = append(touches, strings.Repeat(part, length/3))
			}
		}
	}
	for _, part := range randomTouches(1)[:30] {
		touches = append(touches, strings.Repeat(part, 60/len(part)), part+part)
	}
	return touches
}

// badTouches are strings that are no touch.
func badTouches() []string {
	touches := []string{
		"", "px", "xp", "p b", " p", "p ", "p\n", "\tb", "s\x00", "\x00s", "P", "pB", "S", "-", "p-b", "p.b", "14", "q", "c", "a", "r", "t", "o",
		"p\u0440", "\u0440", "\u00de", "\uff50", "p\uff42", "\u017f", "p\u0301", "\xf0", "p\xe2", "\xf3p", "(pb)2", "A=p;A", "plain",
		strings.Repeat("p", 61), strings.Repeat("b", 61), strings.Repeat("s", 62), strings.Repeat("pbs", 21), strings.Repeat("psb", 100),
		strings.Repeat("p", 256+1), strings.Repeat("p", 59) + "x", "x" + strings.Repeat("b", 59), strings.Repeat("s", 60) + "x", strings.Repeat("b", 1<<16),
	}
	for letter := range 256 {
		if call := string([]byte{byte(letter)}); !slices.Contains(letters, call) {
			touches = append(touches, call, "p"+call, call+"b", "ps"+call+"bb")
		}
	}
	return touches
}

// callTurnFunctions calls every function of chapter 9 that takes no method and returns what they return.
func callTurnFunctions(touch string, n int) []any {
	good := impl.GoodTouch(touch)
	turned, ok1 := impl.TurnTouch(touch, n)
	reversed, ok2 := impl.ReverseTouch(touch)
	least, ok3 := impl.LeastTurn(touch, false)
	leastOfBoth, ok4 := impl.LeastTurn(touch, true)
	counts, ok5 := impl.CallsIn(touch)
	return []any{good, turned, ok1, reversed, ok2, least, ok3, leastOfBoth, ok4, counts, ok5}
}

// callTouchFunctions calls every function of chapter 9 that takes a method and returns what they return.
func callTouchFunctions(m impl.Method, k impl.Calls, touch string) []any {
	heads, ok1 := impl.TouchHeads(m, k, touch)
	end, ok2 := impl.TouchEnd(m, k, touch)
	rows, ok3 := impl.TouchRows(m, k, touch)
	round, ok4 := impl.IsRound(m, k, touch)
	return []any{heads, ok1, end, ok2, rows, ok3, round, ok4}
}

func mustTouchHeads(t *testing.T, m impl.Method, k impl.Calls, touch string) []string {
	t.Helper()
	heads, ok := impl.TouchHeads(m, k, touch)
	if !ok {
		t.Fatalf("TouchHeads(%v, %v, %q) fails", m, k, touch)
	}
	return heads
}

func mustTurnTouch(t *testing.T, touch string, n int) string {
	t.Helper()
	turned, ok := impl.TurnTouch(touch, n)
	if !ok {
		t.Fatalf("TurnTouch(%q, %d) fails", touch, n)
	}
	return turned
}

func mustReverseTouch(t *testing.T, touch string) string {
	t.Helper()
	reversed, ok := impl.ReverseTouch(touch)
	if !ok {
		t.Fatalf("ReverseTouch(%q) fails", touch)
	}
	return reversed
}

func mustLeastTurn(t *testing.T, touch string, both bool) string {
	t.Helper()
	least, ok := impl.LeastTurn(touch, both)
	if !ok {
		t.Fatalf("LeastTurn(%q, %v) fails", touch, both)
	}
	return least
}

func checkEnd(t *testing.T, m impl.Method, k impl.Calls, touch string, want string) {
	t.Helper()
	if end, ok := impl.TouchEnd(m, k, touch); end != want || !ok {
		t.Fatalf("TouchEnd(%v, %v, %q) is %q, %v", m, k, touch, end, ok)
	}
}

func checkRound(t *testing.T, m impl.Method, k impl.Calls, touch string, want bool) {
	t.Helper()
	if round, ok := impl.IsRound(m, k, touch); round != want || !ok {
		t.Fatalf("IsRound(%v, %v, %q) is %v, %v", m, k, touch, round, ok)
	}
}

// checkTouch compares the functions that take a method with the words of the document.
func checkTouch(t *testing.T, m impl.Method, k impl.Calls, touch string) {
	t.Helper()
	heads, rows := plainTouch(m, k, touch)
	if got := mustTouchHeads(t, m, k, touch); !slices.Equal(got, heads) {
		t.Fatalf("TouchHeads(%v, %v, %q) is %q", m, k, touch, got)
	}
	end := heads[len(heads)-1]
	checkEnd(t, m, k, touch, end)
	checkRound(t, m, k, touch, end == rounds8[:m.Stage])
	got, ok := impl.TouchRows(m, k, touch)
	if len(rows) > 800 {
		rows = nil
	}
	if ok != (rows != nil) || !slices.Equal(got, rows) {
		t.Fatalf("TouchRows(%v, %v, %q) is %q, %v", m, k, touch, got, ok)
	}
}

// checkTurns compares the functions that take no method with the words of the document.
func checkTurns(t *testing.T, touch string) {
	t.Helper()
	if !impl.GoodTouch(touch) {
		t.Fatalf("GoodTouch(%q) is false", touch)
	}
	turns := plainTurns(touch)
	for n, turn := range turns {
		if got := mustTurnTouch(t, touch, n); got != turn {
			t.Fatalf("TurnTouch(%q, %d) is %q", touch, n, got)
		}
	}
	reversed := plainReversed(touch)
	if got := mustReverseTouch(t, touch); got != reversed {
		t.Fatalf("ReverseTouch(%q) is %q", touch, got)
	}
	if got := mustLeastTurn(t, touch, false); got != slices.Min(turns) {
		t.Fatalf("LeastTurn(%q, false) is %q", touch, got)
	}
	if got := mustLeastTurn(t, touch, true); got != slices.Min(append(turns, plainTurns(reversed)...)) {
		t.Fatalf("LeastTurn(%q, true) is %q", touch, got)
	}
	want := []int{strings.Count(touch, "p"), strings.Count(touch, "b"), strings.Count(touch, "s")}
	if counts, ok := impl.CallsIn(touch); !ok || !slices.Equal(counts, want) {
		t.Fatalf("CallsIn(%q) is %d, %v", touch, counts, ok)
	}
}

func TestTouchesOfTheDocument(t *testing.T) {
	m, k := plainBob(), impl.Calls{Bob: "14", Single: "12"}
	if impl.GoodTouch("") || impl.GoodTouch("px") || !impl.GoodTouch("pbs") {
		t.Error("GoodTouch differs from the document")
	}
	if heads := mustTouchHeads(t, m, k, "ppb"); !slices.Equal(heads, []string{"1234", "1342", "1423", "1423"}) {
		t.Errorf("TouchHeads is %q", heads)
	}
	checkEnd(t, m, k, "ppp", "1234")
	checkRound(t, m, k, "bb", true)
	checkRound(t, m, k, "ppb", false)
	rows, ok := impl.TouchRows(m, k, "ppp")
	if course, _ := impl.CourseRows(m); !ok || len(rows) != 24 || rows[0] != "1234" || rows[1] != "2143" || !slices.Equal(rows, course) {
		t.Errorf("TouchRows is %q, %v", rows, ok)
	}
	if counts, ok := impl.CallsIn("pbp"); !ok || !slices.Equal(counts, []int{2, 1, 0}) {
		t.Errorf("CallsIn is %d, %v", counts, ok)
	}
	if turned := mustTurnTouch(t, "pbs", 1); turned != "bsp" {
		t.Errorf("TurnTouch is %q", turned)
	}
	if reversed := mustReverseTouch(t, "pbs"); reversed != "bps" {
		t.Errorf("ReverseTouch is %q", reversed)
	}
	if least := mustLeastTurn(t, "psb", false); least != "bps" {
		t.Errorf("LeastTurn is %q", least)
	}
	if least := mustLeastTurn(t, "sbpp", true); least != "bpps" {
		t.Errorf("LeastTurn with both directions is %q", least)
	}
}

func TestGoodTouch(t *testing.T) {
	for length := 1; length <= 5; length++ {
		for _, touch := range shortTouches(length) {
			if !impl.GoodTouch(touch) {
				t.Errorf("GoodTouch(%q) is false", touch)
			}
		}
	}
	for _, touch := range append(randomTouches(3), turningTouches()...) {
		if !impl.GoodTouch(touch) {
			t.Errorf("GoodTouch(%q) is false", touch)
		}
	}
	for _, touch := range badTouches() {
		if impl.GoodTouch(touch) {
			t.Errorf("GoodTouch(%q) is true", touch)
		}
	}
	for length := range 200 {
		for _, call := range letters {
			if got := impl.GoodTouch(strings.Repeat(call, length)); got != (length >= 1 && length <= impl.MaxCalls) {
				t.Errorf("GoodTouch of %d calls %s is %v", length, call, got)
			}
		}
	}
}

func TestEachLetterOfATouchIsACall(t *testing.T) {
	for length := 1; length <= 60; length++ {
		touch := []byte(strings.Repeat("pbs", 20)[:length])
		for at := range touch {
			call := touch[at]
			for _, letter := range []byte{'x', 0, ' ', 'P', 'b' + 1, 's' - 1, 0xff, call - 32, call | 0x80} {
				touch[at] = letter
				if impl.GoodTouch(string(touch)) {
					t.Fatalf("GoodTouch(%q) is true", touch)
				}
			}
			touch[at] = call
		}
	}
}

func TestHeadsFollowFromTheCalls(t *testing.T) {
	touches := append(randomTouches(2), turningTouches()...)
	at := 0
	for n := 3; n <= 8; n++ {
		for i, m := range methodsOf(n) {
			k := callsFor(m)[i%6]
			head := map[byte]string{}
			for _, call := range letters {
				head[call[0]], _ = impl.CallHead(m, k, call)
			}
			touch := touches[at%len(touches)]
			at++
			heads := mustTouchHeads(t, m, k, touch)
			if len(heads) != len(touch)+1 || heads[0] != rounds8[:n] {
				t.Fatalf("TouchHeads(%v, %v, %q) is %q", m, k, touch, heads)
			}
			for j := range len(touch) {
				if next := mustTimes(t, heads[j], head[touch[j]]); heads[j+1] != next {
					t.Fatalf("TouchHeads(%v, %v, %q) is %q", m, k, touch, heads)
				}
				checkEnd(t, m, k, touch[:j+1], heads[j+1])
				checkRound(t, m, k, touch[:j+1], heads[j+1] == rounds8[:n])
			}
		}
	}
}

func TestRowsAreThoseOfTheLeads(t *testing.T) {
	touches := randomTouches(2)
	for n := 3; n <= 8; n++ {
		for i, m := range methodsOf(n) {
			k, length := callsFor(m)[i%6], len(m.Changes)
			touch := touches[i%len(touches)]
			touch = touch[:min(len(touch), 800/length)]
			rows, ok := impl.TouchRows(m, k, touch)
			if !ok || len(rows) != length*len(touch) {
				t.Fatalf("TouchRows(%v, %v, %q) is %q, %v", m, k, touch, rows, ok)
			}
			heads := mustTouchHeads(t, m, k, touch)
			for lead, call := range strings.Split(touch, "") {
				called := mustCalledLead(t, m, k, call)
				want, _ := impl.LeadRows(called, heads[lead])
				if !slices.Equal(rows[lead*length:(lead+1)*length], want) {
					t.Fatalf("lead %d of TouchRows(%v, %v, %q) is %q", lead, m, k, touch, rows[lead*length:])
				}
				// The last change of the lead joins it to the next head.
				if next := mustApply(t, rows[(lead+1)*length-1], called.Changes[length-1]); next != heads[lead+1] {
					t.Fatalf("lead %d of TouchRows(%v, %v, %q) leads to %q", lead, m, k, touch, next)
				}
			}
		}
	}
}

func TestTouchesByTheWords(t *testing.T) {
	touches := append(randomTouches(1), turningTouches()...)
	at := 0
	for n := 3; n <= 8; n++ {
		for i, m := range methodsOf(n) {
			checkTouch(t, m, callsFor(m)[i%6], touches[at%len(touches)])
			at++
		}
		for _, m := range methodsWith(n, randomLists(n, 1)) {
			for _, k := range callsFor(m) {
				checkTouch(t, m, k, touches[at%len(touches)])
				at++
			}
		}
	}
}

func TestAllShortTouches(t *testing.T) {
	for n := 3; n <= 8; n++ {
		m := methodsWith(n, randomLists(n, 1))[5]
		for _, k := range callsFor(m) {
			for length := 1; length <= 4; length++ {
				for _, touch := range shortTouches(length) {
					checkTouch(t, m, k, touch)
				}
			}
		}
	}
	for length := 1; length <= 6; length++ {
		for _, touch := range shortTouches(length) {
			checkTouch(t, plainBob(), impl.Calls{Bob: "14", Single: "12"}, touch)
		}
	}
}

func TestTouchOfOneCall(t *testing.T) {
	for n := 3; n <= 8; n++ {
		for i, m := range methodsWith(n, randomLists(n, 2)) {
			k := callsFor(m)[i%6]
			for _, call := range letters {
				head, _ := impl.CallHead(m, k, call)
				if heads := mustTouchHeads(t, m, k, call); !slices.Equal(heads, []string{rounds8[:n], head}) {
					t.Fatalf("TouchHeads(%v, %v, %q) is %q", m, k, call, heads)
				}
				lead, _ := impl.LeadRows(m, rounds8[:n])
				if rows, ok := impl.TouchRows(m, k, call); !ok || !slices.Equal(rows, lead) {
					t.Fatalf("TouchRows(%v, %v, %q) is %q, %v", m, k, call, rows, ok)
				}
				checkEnd(t, m, k, call, head)
				checkRound(t, m, k, call, head == rounds8[:n])
				checkTurns(t, call)
			}
		}
	}
}

func TestTouchesOfTheMostCalls(t *testing.T) {
	for n := 3; n <= 8; n++ {
		for i, m := range methodsWith(n, randomLists(n, 1)) {
			k := callsFor(m)[i%6]
			for _, touch := range []string{strings.Repeat("p", 60), strings.Repeat("pbs", 20), randomTouches(1)[59]} {
				checkTouch(t, m, k, touch)
				if results := callTouchFunctions(m, k, touch+"p"); !allZero(results) {
					t.Fatalf("with %v, %v and 61 calls the functions return %v", m, k, results)
				}
			}
		}
	}
}

// Every length of a lead with every length of a touch, so all that make just 800 rows and all that make one lead more.
func TestTouchRowsUpToTheMost(t *testing.T) {
	touches := randomTouches(1)
	for n := 3; n <= 8; n++ {
		for i, m := range methodsWith(n, randomLists(n, 1)) {
			k := callsFor(m)[i%6]
			for j, touch := range touches {
				length := (i + 1) * (j + 1)
				rows, ok := impl.TouchRows(m, k, touch)
				if ok != (length <= impl.MaxRows) || ok && len(rows) != length || !ok && rows != nil {
					t.Fatalf("TouchRows of %d leads of %d rows on %d bells is %q, %v", j+1, i+1, n, rows, ok)
				}
				// The heads need no rows.
				if heads, ok := impl.TouchHeads(m, k, touch); !ok || len(heads) != j+2 {
					t.Fatalf("TouchHeads of %d leads of %d rows on %d bells is %q, %v", j+1, i+1, n, heads, ok)
				}
			}
		}
	}
	for length, leads := range map[int]int{14: 57, 16: 50, 20: 40, 25: 32, 32: 25, 40: 20} {
		for n := 3; n <= 8; n++ {
			m := methodsWith(n, randomLists(n, 1))[length-1]
			k, touch := callsFor(m)[4], strings.Repeat("pbs", 20)
			most, ok := impl.TouchRows(m, k, touch[:leads])
			if !ok || len(most) != length*leads || length != 14 && len(most) != 800 {
				t.Errorf("TouchRows of %d leads of %d rows are %d, %v", leads, length, len(most), ok)
			}
			if rows, ok := impl.TouchRows(m, k, touch[:leads+1]); ok || rows != nil {
				t.Errorf("TouchRows of %d leads of %d rows are %d, %v", leads+1, length, len(rows), ok)
			}
			checkTouch(t, m, k, touch[:leads])
			checkTouch(t, m, k, touch[:leads+1])
		}
	}
}

// roundTouches are touches of a method that come round: short parts that are repeated until they do.
func roundTouches(t *testing.T, m impl.Method, k impl.Calls, parts []string) []string {
	t.Helper()
	var touches []string
	for _, part := range parts {
		heads, _ := plainTouch(m, k, part)
		touch := strings.Repeat(part, plainOrder(heads[len(part)]))
		if len(touch) <= 60 {
			checkRound(t, m, k, touch, true)
			touches = append(touches, touch)
		}
	}
	if len(touches) == 0 {
		t.Fatalf("no touch of %v with %v comes round", m, k)
	}
	return touches
}

func TestRotationsOfARoundTouch(t *testing.T) {
	parts := slices.Concat(shortTouches(1), shortTouches(2), shortTouches(3), randomTouches(1)[3:15])
	for n := 3; n <= 8; n++ {
		for _, m := range append(methodsWith(n, randomLists(n, 1)[:20]), methodsOf(n)[:9]...) {
			k := callsFor(m)[4]
			for _, touch := range roundTouches(t, m, k, parts) {
				least, leastOfBoth := mustLeastTurn(t, touch, false), mustLeastTurn(t, touch, true)
				checkRound(t, m, k, least, true)
				for turn := range len(touch) {
					turned := mustTurnTouch(t, touch, turn)
					checkRound(t, m, k, turned, true)
					if got := mustLeastTurn(t, turned, false); got != least {
						t.Fatalf("LeastTurn(%q, false) is %q, but %q for %q", turned, got, least, touch)
					}
					if got := mustLeastTurn(t, turned, true); got != leastOfBoth {
						t.Fatalf("LeastTurn(%q, true) is %q, but %q for %q", turned, got, leastOfBoth, touch)
					}
				}
			}
		}
	}
}

// A rotation starts at another head, so what it ends with is the same permutation seen from there.
func TestRotationsComeRoundTogether(t *testing.T) {
	touches := append(randomTouches(1), slices.Concat(shortTouches(2), shortTouches(3), shortTouches(4))...)
	round, notRound := 0, 0
	for n := 3; n <= 8; n++ {
		for i, m := range methodsWith(n, randomLists(n, 1)) {
			k := callsFor(m)[i%6]
			for j := i; j < len(touches); j += 7 {
				touch := touches[j]
				heads := mustTouchHeads(t, m, k, touch)
				end := heads[len(touch)]
				for turn := range len(touch) {
					turned := mustTurnTouch(t, touch, turn)
					back, _ := impl.TurnRow(heads[turn])
					checkEnd(t, m, k, turned, mustTimes(t, mustTimes(t, back, end), heads[turn]))
					checkRound(t, m, k, turned, end == rounds8[:n])
				}
				if end == rounds8[:n] {
					round++
				} else {
					notRound++
				}
			}
		}
	}
	if round < 100 || notRound < 100 {
		t.Errorf("%d touches come round and %d don't", round, notRound)
	}
}

func TestPlainCourseIsATouch(t *testing.T) {
	for n := 3; n <= 8; n++ {
		for i, m := range methodsWith(n, randomLists(n, 2)) {
			k := callsFor(m)[i%6]
			leads, _ := impl.LeadsIn(m)
			for length := 1; length <= 60; length++ {
				checkRound(t, m, k, strings.Repeat("p", length), length%leads == 0)
			}
			course, _ := impl.CourseRows(m)
			if rows, ok := impl.TouchRows(m, k, strings.Repeat("p", leads)); !ok || !slices.Equal(rows, course) {
				t.Fatalf("TouchRows of the plain course of %v is %q, %v", m, rows, ok)
			}
		}
	}
}

func TestTouchesKnown(t *testing.T) {
	minimus := []string{"-", "14", "-", "14", "-", "14", "-", "12"}
	doubles := []string{"5", "1", "5", "1", "5", "1", "5", "1", "5", "125"}
	minor := []string{"-", "16", "-", "16", "-", "16", "-", "16", "-", "16", "-", "12"}
	triples := []string{"7", "1", "7", "1", "7", "1", "7", "1", "7", "1", "7", "1", "7", "127"}
	major := []string{"-", "18", "-", "18", "-", "18", "-", "18", "-", "18", "-", "18", "-", "18", "-", "12"}
	for _, known := range []struct {
		n           int
		changes     []string
		bob, single string
		touch, end  string
		rows        int
		isTrue      bool
	}{
		{4, minimus, "14", "12", "p", "1342", 8, true},
		{4, minimus, "14", "12", "bb", "1234", 16, false},
		{5, doubles, "145", "123", "pppb", "14235", 40, true},
		{5, doubles, "145", "123", "pppbpppbpppb", "12345", 120, true},
		{6, minor, "14", "1234", "ppppp", "123456", 60, true},
		{6, minor, "14", "1234", "ppppb", "142356", 60, true},
		{6, minor, "14", "1234", "ppppbppppbppppb", "123456", 180, true},
		{6, minor, "14", "1234", "pppps", "124356", 60, true},
		{6, minor, "14", "1234", "ppppsppppsppppsppppspppps", "124356", 300, false},
		{7, triples, "147", "12347", "pppppb", "1423567", 84, true},
		{7, triples, "147", "12347", "ppppps", "1243567", 84, true},
		{8, major, "14", "1234", "ppppppb", "14235678", 112, true},
		{8, major, "14", "1234", "ppppppbppppppbppppppb", "12345678", 336, true},
		{8, major, "14", "1234", "ppppppsppppppsp", "13527486", 240, false},
	} {
		m := impl.Method{Name: "plain", Stage: known.n, Changes: known.changes}
		k := impl.Calls{Bob: known.bob, Single: known.single}
		checkEnd(t, m, k, known.touch, known.end)
		checkRound(t, m, k, known.touch, known.end == rounds8[:known.n])
		rows, ok := impl.TouchRows(m, k, known.touch)
		if is, _ := impl.IsTrueList(rows); !ok || len(rows) != known.rows || is != known.isTrue {
			t.Errorf("TouchRows(%v, %v, %q) are %d, true %v, %v", m, k, known.touch, len(rows), is, ok)
		}
	}
}

func TestRotationsAndReversalsByTheWords(t *testing.T) {
	for length := 1; length <= 7; length++ {
		for _, touch := range shortTouches(length) {
			checkTurns(t, touch)
		}
	}
	for _, touch := range append(randomTouches(20), turningTouches()...) {
		checkTurns(t, touch)
	}
}

func TestRotationsFromFirstToLast(t *testing.T) {
	for _, touch := range append(randomTouches(1), turningTouches()...) {
		length := len(touch)
		if turned := mustTurnTouch(t, touch, 0); turned != touch {
			t.Fatalf("TurnTouch(%q, 0) is %q", touch, turned)
		}
		if turned := mustTurnTouch(t, touch, length-1); turned != touch[length-1:]+touch[:length-1] {
			t.Fatalf("TurnTouch(%q, %d) is %q", touch, length-1, turned)
		}
		for n := 1; n < length; n++ {
			if back := mustTurnTouch(t, mustTurnTouch(t, touch, n), length-n); back != touch {
				t.Fatalf("TurnTouch(%q, %d) and then by %d is %q", touch, n, length-n, back)
			}
		}
		for _, n := range []int{math.MinInt, -length - 1, -length, -2, -1, length, length + 1, 2 * length, 61, 1 << 32, math.MaxInt} {
			if turned, ok := impl.TurnTouch(touch, n); turned != "" || ok {
				t.Fatalf("TurnTouch(%q, %d) is %q, %v", touch, n, turned, ok)
			}
		}
	}
}

func TestReversalsKnown(t *testing.T) {
	for touch, want := range map[string]string{
		"p": "p", "b": "b", "s": "s", "pb": "pb", "bp": "bp", "sp": "sp", "ss": "ss", "pbs": "bps", "bps": "pbs", "ppb": "ppb",
		"sppb": "ppsb", "pbpp": "pbpp", "bsspp": "pssbp", "pbsbpb": "pbsbpb", "ppppbs": "bpppps",
	} {
		if reversed := mustReverseTouch(t, touch); reversed != want {
			t.Errorf("ReverseTouch(%q) is %q", touch, reversed)
		}
	}
	for _, touch := range append(randomTouches(5), turningTouches()...) {
		reversed := mustReverseTouch(t, touch)
		last := len(touch) - 1
		if reversed[last] != touch[last] || mustReverseTouch(t, reversed) != touch {
			t.Fatalf("ReverseTouch(%q) is %q", touch, reversed)
		}
	}
}

func TestLeastTurnsKnown(t *testing.T) {
	for _, known := range []struct{ touch, least, leastOfBoth string }{
		{"p", "p", "p"}, {"s", "s", "s"}, {"pb", "bp", "bp"}, {"ps", "ps", "ps"}, {"sp", "ps", "ps"}, {"sb", "bs", "bs"},
		{"psb", "bps", "bps"}, {"pbs", "bsp", "bps"}, {"bsp", "bsp", "bps"}, {"spb", "bsp", "bps"}, {"sbpp", "bpps", "bpps"}, {"sppb", "bspp", "bpps"},
		{"ppp", "ppp", "ppp"}, {"pbpb", "bpbp", "bpbp"}, {"spsp", "psps", "psps"}, {"ppbppb", "bppbpp", "bppbpp"},
		{"pbpbp", "bpbpp", "bpbpp"}, {"bpbbp", "bbpbp", "bbpbp"}, {"bpbbpbb", "bbbpbbp", "bbbpbbp"}, {"bbpbbs", "bbpbbs", "bbpbbs"}, {"bbsbbp", "bbpbbs", "bbpbbs"},
		{"bbsbp", "bbsbp", "bbpbs"}, {"spbsbp", "bpspbs", "bpspbs"}, {"pbsbps", "bpspbs", "bpspbs"}, {"bsbpp", "bppbs", "bppbs"}, {"bsppb", "bbspp", "bbpps"},
		{strings.Repeat("p", 59) + "b", "b" + strings.Repeat("p", 59), "b" + strings.Repeat("p", 59)},
		{strings.Repeat("sbp", 20), strings.Repeat("bps", 20), strings.Repeat("bps", 20)},
		{strings.Repeat("spb", 20), strings.Repeat("bsp", 20), strings.Repeat("bps", 20)},
	} {
		if least := mustLeastTurn(t, known.touch, false); least != known.least {
			t.Errorf("LeastTurn(%q, false) is %q", known.touch, least)
		}
		if least := mustLeastTurn(t, known.touch, true); least != known.leastOfBoth {
			t.Errorf("LeastTurn(%q, true) is %q", known.touch, least)
		}
	}
}

func TestLeastTurnIsSharedByTurnsAndReversals(t *testing.T) {
	for _, touch := range append(randomTouches(2), turningTouches()...) {
		least, leastOfBoth := mustLeastTurn(t, touch, false), mustLeastTurn(t, touch, true)
		if least < leastOfBoth || mustLeastTurn(t, least, false) != least || mustLeastTurn(t, leastOfBoth, true) != leastOfBoth {
			t.Fatalf("LeastTurn(%q) is %q and with both directions %q", touch, least, leastOfBoth)
		}
		for _, turned := range plainTurns(touch) {
			if mustLeastTurn(t, turned, false) != least || mustLeastTurn(t, turned, true) != leastOfBoth {
				t.Fatalf("%q and %q have other least rotations", touch, turned)
			}
			if mustLeastTurn(t, mustReverseTouch(t, turned), true) != leastOfBoth {
				t.Fatalf("the reversal of %q has another least rotation than %q", turned, touch)
			}
		}
	}
}

func TestBadTouchesGiveZeroValues(t *testing.T) {
	for i, touch := range badTouches() {
		for _, n := range []int{0, 1, -1, len(touch) - 1, len(touch), math.MinInt, math.MaxInt} {
			if results := callTurnFunctions(touch, n); !allZero(results) {
				t.Errorf("with %q and %d the functions return %v", touch, n, results)
			}
		}
		n := 3 + i%6
		m := methodsWith(n, listsOf(n, 2))[i%2]
		if results := callTouchFunctions(m, callsFor(m)[i%6], touch); !allZero(results) {
			t.Errorf("with %v and %q the functions return %v", m, touch, results)
		}
	}
}

func TestTouchesWithBadCallsGiveZeroValues(t *testing.T) {
	touches := randomTouches(1)
	for n := 3; n <= 8; n++ {
		m := methodsWith(n, randomLists(n, 1))[5]
		for i, k := range badPairs(n) {
			// A call that is not used must be valid too.
			for _, touch := range []string{"p", "pp", letters[i%3], touches[i%len(touches)]} {
				if results := callTouchFunctions(m, k, touch); !allZero(results) {
					t.Errorf("with %v, %q and %q the functions return %v", m, k, touch, results)
				}
			}
		}
	}
}

func TestTouchesOfBadMethodsGiveZeroValues(t *testing.T) {
	touches := append(randomTouches(1), badTouches()[:10]...)
	for i, m := range badMethods() {
		for j, k := range pairsOfStage(m.Stage) {
			if results := callTouchFunctions(m, k, touches[(i+j)%len(touches)]); !allZero(results) {
				t.Errorf("with %v and %q the functions return %v", m, k, results)
			}
		}
	}
}

func TestTouchResultsShareNoMemory(t *testing.T) {
	k := impl.Calls{Bob: "14", Single: "1234"}
	for _, touch := range randomTouches(1)[:50] {
		changes, back := withSpareRows([]string{"-", "14", "-", "16", "-", "12"})
		kept := slices.Clone(back)
		m := impl.Method{Name: "a", Stage: 6, Changes: changes}
		want := callTouchFunctions(copyOf(m), k, touch)
		heads := mustTouchHeads(t, m, k, touch)
		overwrite(heads)
		rows, _ := impl.TouchRows(m, k, touch)
		overwrite(rows)
		counts, _ := impl.CallsIn(touch)
		overwriteNumbers(counts)
		if !slices.Equal(back, kept) {
			t.Fatalf("the changes become %q with the results", back)
		}
		results := callTouchFunctions(m, k, touch)
		if !reflect.DeepEqual(results, want) {
			t.Errorf("results are %v after others are overwritten", results)
		}
		overwrite(back)
		if !reflect.DeepEqual(results, want) {
			t.Errorf("results become %v with the changes", results)
		}
		checkTurns(t, touch)
	}
}

func TestTouchFunctionsAcceptAllArguments(t *testing.T) {
	methods, pairs := allMethodsAndPairs()
	touches := slices.Concat(badTouches(), randomTouches(2), turningTouches())
	for i, touch := range touches {
		m, k := methods[i%len(methods)], pairs[i%len(pairs)]
		changes, back := withSpareRows(m.Changes)
		kept := slices.Clone(back)
		given := impl.Method{Name: m.Name, Stage: m.Stage, Changes: changes}
		first := append(callTouchFunctions(given, k, touch), callTurnFunctions(touch, i%70-5)...)
		again := append(callTouchFunctions(given, k, touch), callTurnFunctions(touch, i%70-5)...)
		if !reflect.DeepEqual(first, again) {
			t.Fatalf("calls with %v, %q and %q return %v and then %v", m, k, touch, first, again)
		}
		if !impl.SameMethod(given, m) || !slices.Equal(back, kept) {
			t.Fatalf("arguments are changed: %q", kept)
		}
	}
}

func FuzzTouchFunctions(f *testing.F) {
	f.Add("plain", 4, "- 14 - 14 - 14 - 12", "14", "12", "ppb", 2)
	f.Add("abcdefghij", 5, "5 1 5 1 5 125", "145", "12345", "pppbpppbpppb", 11)
	f.Add("a", 3, "1", "3", "1", "s", 0)
	f.Add("a", 8, "- 18 - 18 - 18 - 18 - 18 - 18 - 18 - 12", "14", "1234", strings.Repeat("pbs", 17), 50)
	f.Add("A", 8, "18", "", "-", "px", -1)
	f.Fuzz(func(t *testing.T, name string, n int, changes, bob, single, touch string, turn int) {
		m := impl.Method{Name: name, Stage: n, Changes: strings.Fields(changes)}
		k := impl.Calls{Bob: bob, Single: single}
		results, turns := callTouchFunctions(m, k, touch), callTurnFunctions(touch, turn)
		if !plainIsTouch(touch) {
			if !allZero(results) || !allZero(turns) {
				t.Fatalf("with %q the functions return %v and %v", touch, results, turns)
			}
			return
		}
		checkTurns(t, touch)
		if inRange := turn >= 0 && turn < len(touch); turns[2] != inRange || !inRange && turns[1] != "" {
			t.Fatalf("TurnTouch(%q, %d) is %v, %v", touch, turn, turns[1], turns[2])
		}
		if impl.GoodCalls(m, k) {
			checkTouch(t, m, k, touch)
		} else if !allZero(results) {
			t.Fatalf("with %v and %q the functions return %v", m, k, results)
		}
	})
}
