package tests

import (
	"reflect"
	"slices"
	"strings"
	"testing"

	"loop.example/g00894/impl"
)

var letters = []string{"p", "b", "s"}

// plainCalled is the method with the change that a call puts at its end, by the words of the document.
func plainCalled(m impl.Method, k impl.Calls, call string) impl.Method {
	m = copyOf(m)
	last := len(m.Changes) - 1
	m.Changes[last] = map[string]string{"p": m.Changes[last], "b": k.Bob, "s": k.Single}[call]
	return m
}

func plainHead(m impl.Method) string {
	return plainLead(m, rounds8[:m.Stage])[len(m.Changes)]
}

// plainQuotient is the row x for which a times x is b.
func plainQuotient(a, b string) string {
	x := ""
	for _, bell := range b {
		place := strings.IndexRune(a, bell)
		x += rounds8[place : place+1]
	}
	return x
}

func plainOrder(r string) int {
	k := 1
	for power := r; power != rounds8[:len(r)]; power = plainProduct(power, r) {
		k++
	}
	return k
}

func plainMoved(r string) []int {
	var moved []int
	for i := range r {
		if r[i] != rounds8[i] {
			moved = append(moved, i+1)
		}
	}
	return moved
}

// callsFor are calls for a method: equal to each other, to its last change, to both and to neither.
func callsFor(m impl.Method) []impl.Calls {
	last := m.Changes[len(m.Changes)-1]
	other := otherChange(m.Stage, last)
	changes := changesOf(m.Stage)
	third := changes[(len(m.Changes)*7+slices.Index(changes, last))%len(changes)]
	return []impl.Calls{
		{Bob: last, Single: last}, {Bob: last, Single: other}, {Bob: other, Single: last},
		{Bob: other, Single: other}, {Bob: other, Single: third}, {Bob: third, Single: other},
	}
}

// allCalls are all pairs of changes of a stage.
func allCalls(n int) []impl.Calls {
	var calls []impl.Calls
	for _, bob := range changesOf(n) {
		for _, single := range changesOf(n) {
			calls = append(calls, impl.Calls{Bob: bob, Single: single})
		}
	}
	return calls
}

// badCalls are strings that are no call.
func badCalls() []string {
	calls := []string{
		"pp", "bb", "ss", "pb", "ps", "bp", "sb", "pbs", "plain", "bob", "single", "p ", " p", "b\n", "\tb", "s\x00", "\x00s", "-", "14", "ppppp",
		"\u0440", "\u00de", "\uff50", "\uff42", "\u017f", "p\u0301", "\xf0", "\xe2", "\xf3", strings.Repeat("b", 1<<16),
	}
	calls = append(calls, "")
	for letter := range 256 {
		if call := string([]byte{byte(letter)}); !slices.Contains(letters, call) {
			calls = append(calls, call)
		}
	}
	return calls
}

// badPairs are calls each of which has one change at least that is none of the stage n.
func badPairs(n int) []impl.Calls {
	good := changesOf(n)[len(changesOf(n))-1]
	pairs := []impl.Calls{{}, {Bob: good}, {Single: good}}
	for _, c := range badChanges(n) {
		pairs = append(pairs, impl.Calls{Bob: c, Single: good}, impl.Calls{Bob: good, Single: c}, impl.Calls{Bob: c, Single: c})
	}
	return pairs
}

// pairsOfStage are a few pairs of calls, valid ones among them if the stage is valid.
func pairsOfStage(n int) []impl.Calls {
	pairs := []impl.Calls{{}, {Bob: "14", Single: "12"}, {Bob: "-", Single: "-"}, {Bob: "1", Single: "3"}}
	if n >= 3 && n <= 8 {
		pairs = append(pairs, allCalls(n)[0])
	}
	return pairs
}

// allMethodsAndPairs are methods and pairs of calls, valid ones, others and very long ones.
func allMethodsAndPairs() ([]impl.Method, []impl.Calls) {
	methods := append(badMethods(), plainBob(), impl.Method{Name: strings.Repeat("a", 1<<20), Stage: 4, Changes: repeated("-", 1<<16)})
	pairs := []impl.Calls{{}, {Bob: "14", Single: "12"}, {Bob: strings.Repeat("14", 1<<16), Single: "\xff"}}
	for n := 3; n <= 8; n++ {
		methods = append(methods, methodsWith(n, randomLists(n, 1))...)
		pairs = append(pairs, badPairs(n)[:20]...)
		pairs = append(pairs, allCalls(n)[:4]...)
	}
	return methods, pairs
}

// callCallFunctions calls every function of chapter 8 and returns what they return.
func callCallFunctions(m impl.Method, k impl.Calls, a, b string) []any {
	good := impl.GoodCalls(m, k)
	called, ok1 := impl.CalledLead(m, k, a)
	head, ok2 := impl.CallHead(m, k, a)
	row, ok3 := impl.CallRow(m, k, a)
	order, ok4 := impl.CallOrder(m, k, a)
	moved, ok5 := impl.MovedBells(m, k, a)
	heads, ok6 := impl.CallHeads(m, k)
	same, ok7 := impl.SameLead(m, k, a, b)
	return []any{good, called, ok1, head, ok2, row, ok3, order, ok4, moved, ok5, heads, ok6, same, ok7}
}

// checkEffect compares what a call does with a wanted row, its order and the places that it moves.
func checkEffect(t *testing.T, m impl.Method, k impl.Calls, call string, want string, wantOrder int, wantMoved []int) {
	t.Helper()
	if row, ok := impl.CallRow(m, k, call); row != want || !ok {
		t.Fatalf("CallRow(%v, %v, %q) is %q, %v", m, k, call, row, ok)
	}
	if order, ok := impl.CallOrder(m, k, call); order != wantOrder || !ok {
		t.Fatalf("CallOrder(%v, %v, %q) is %d, %v", m, k, call, order, ok)
	}
	if moved, ok := impl.MovedBells(m, k, call); !ok || !slices.Equal(moved, wantMoved) {
		t.Fatalf("MovedBells(%v, %v, %q) is %d, %v", m, k, call, moved, ok)
	}
}

func checkSameLead(t *testing.T, m impl.Method, k impl.Calls, a, b string, want bool) {
	t.Helper()
	if same, ok := impl.SameLead(m, k, a, b); same != want || !ok {
		t.Fatalf("SameLead(%v, %v, %q, %q) is %v, %v", m, k, a, b, same, ok)
	}
}

func mustCalledLead(t *testing.T, m impl.Method, k impl.Calls, call string) impl.Method {
	t.Helper()
	called, ok := impl.CalledLead(m, k, call)
	if !ok {
		t.Fatalf("CalledLead(%v, %v, %q) fails", m, k, call)
	}
	return called
}

// checkCalls compares all functions with the words of the document.
func checkCalls(t *testing.T, m impl.Method, k impl.Calls) {
	t.Helper()
	if !impl.GoodCalls(m, k) {
		t.Fatalf("GoodCalls(%v, %v) is false", m, k)
	}
	plain := plainHead(m)
	var heads []string
	for _, call := range letters {
		want := plainCalled(m, k, call)
		if called := mustCalledLead(t, m, k, call); !impl.SameMethod(called, want) {
			t.Fatalf("CalledLead(%v, %v, %q) is %v", m, k, call, called)
		}
		head := plainHead(want)
		if got, ok := impl.CallHead(m, k, call); got != head || !ok {
			t.Fatalf("CallHead(%v, %v, %q) is %q, %v", m, k, call, got, ok)
		}
		effect := plainQuotient(plain, head)
		checkEffect(t, m, k, call, effect, plainOrder(effect), plainMoved(effect))
		heads = append(heads, head)
	}
	if got, ok := impl.CallHeads(m, k); !ok || !slices.Equal(got, heads) {
		t.Fatalf("CallHeads(%v, %v) is %q, %v", m, k, got, ok)
	}
	for i, a := range letters {
		for j, b := range letters {
			checkSameLead(t, m, k, a, b, heads[i] == heads[j])
		}
	}
}

func TestMaxCalls(t *testing.T) {
	if impl.MaxCalls != 60 {
		t.Error("MaxCalls is", impl.MaxCalls)
	}
}

func TestCallsOfTheDocument(t *testing.T) {
	m, k := plainBob(), impl.Calls{Bob: "14", Single: "12"}
	checkCalls(t, m, k)
	if impl.GoodCalls(m, impl.Calls{Bob: "13", Single: "12"}) {
		t.Error("a bob 13 is valid")
	}
	want := impl.Method{Name: "plain", Stage: 4, Changes: []string{"-", "14", "-", "14", "-", "14", "-", "14"}}
	if called := mustCalledLead(t, m, k, "b"); !impl.SameMethod(called, want) {
		t.Errorf("CalledLead with b is %v", called)
	}
	for call, want := range map[string]string{"p": "1342", "b": "1234", "s": "1342"} {
		if head, ok := impl.CallHead(m, k, call); head != want || !ok {
			t.Errorf("CallHead with %q is %q, %v", call, head, ok)
		}
	}
	if heads, ok := impl.CallHeads(m, k); !ok || !slices.Equal(heads, []string{"1342", "1234", "1342"}) {
		t.Errorf("CallHeads is %q, %v", heads, ok)
	}
	checkEffect(t, m, k, "b", "1423", 3, []int{2, 3, 4})
	checkSameLead(t, m, k, "p", "s", true)
	checkSameLead(t, m, k, "p", "b", false)
}

func TestCalledLeadDiffersInItsLastChangeOnly(t *testing.T) {
	for n := 3; n <= 8; n++ {
		starts := someRows(n, 6)
		for i, m := range methodsOf(n) {
			last := len(m.Changes) - 1
			from := starts[i%len(starts)]
			rows, _ := impl.LeadRows(m, from)
			k := callsFor(m)[i%6]
			for call, ending := range map[string]string{"p": m.Changes[last], "b": k.Bob, "s": k.Single} {
				called := mustCalledLead(t, m, k, call)
				if called.Name != m.Name || called.Stage != n || len(called.Changes) != last+1 {
					t.Fatalf("CalledLead(%v, %v, %q) is %v", m, k, call, called)
				}
				if !slices.Equal(called.Changes[:last], m.Changes[:last]) || called.Changes[last] != ending {
					t.Fatalf("CalledLead(%v, %v, %q) is %v", m, k, call, called)
				}
				if calledRows, ok := impl.LeadRows(called, from); !ok || !slices.Equal(calledRows, rows) {
					t.Fatalf("the rows of %v with %q are %q, %v", m, call, calledRows, ok)
				}
				head, _ := impl.CallHead(m, k, call)
				if next := mustApply(t, rows[last], ending); next != mustTimes(t, from, head) || head != mustHead(t, called) {
					t.Fatalf("%v with %q leads from %q to %q", m, call, from, next)
				}
			}
		}
	}
}

func TestCallsByTheWords(t *testing.T) {
	for n := 3; n <= 8; n++ {
		for i, m := range methodsOf(n) {
			calls := callsFor(m)
			checkCalls(t, m, calls[i%len(calls)])
		}
		for _, m := range methodsWith(n, randomLists(n, 1)) {
			for _, k := range callsFor(m) {
				checkCalls(t, m, k)
			}
		}
	}
}

func TestAllCallsOfAStage(t *testing.T) {
	for n := 3; n <= 8; n++ {
		m := methodsWith(n, randomLists(n, 1))[5]
		for _, k := range allCalls(n) {
			checkCalls(t, m, k)
		}
	}
}

func TestCallsOfAMethodOfOneChange(t *testing.T) {
	for n := 3; n <= 8; n++ {
		for _, c := range changesOf(n) {
			m := impl.Method{Name: "a", Stage: n, Changes: []string{c}}
			for _, k := range callsFor(m) {
				checkCalls(t, m, k)
				for call, ending := range map[string]string{"p": c, "b": k.Bob, "s": k.Single} {
					if called := mustCalledLead(t, m, k, call); !slices.Equal(called.Changes, []string{ending}) {
						t.Fatalf("CalledLead(%v, %v, %q) is %v", m, k, call, called)
					}
					head, _ := impl.CallHead(m, k, call)
					if want, _ := impl.ChangeRow(n, ending); head != want {
						t.Fatalf("CallHead(%v, %v, %q) is %q", m, k, call, head)
					}
				}
			}
		}
	}
}

func TestCallsOfTheLongestMethods(t *testing.T) {
	for n := 3; n <= 8; n++ {
		for _, m := range methodsWith(n, randomLists(n, 5)[195:]) {
			for _, k := range callsFor(m) {
				checkCalls(t, m, k)
			}
			if len(m.Changes) != impl.MaxLead {
				t.Fatalf("%v has %d changes", m, len(m.Changes))
			}
			tooLong := m
			tooLong.Changes = append(slices.Clone(m.Changes), m.Changes[0])
			if results := callCallFunctions(tooLong, callsFor(m)[4], "b", "s"); !allZero(results) {
				t.Errorf("with 41 changes the functions return %v", results)
			}
		}
	}
}

// The effect is the product of the two changes, whatever the method was before them.
func TestEffectDependsOnTheLastChangesOnly(t *testing.T) {
	for n := 3; n <= 8; n++ {
		for _, m := range methodsWith(n, randomLists(n, 1)) {
			last := m.Changes[len(m.Changes)-1]
			for _, k := range callsFor(m) {
				for call, ending := range map[string]string{"p": last, "b": k.Bob, "s": k.Single} {
					plain, _ := impl.ChangeRow(n, last)
					called, _ := impl.ChangeRow(n, ending)
					if row, ok := impl.CallRow(m, k, call); row != mustTimes(t, plain, called) || !ok {
						t.Fatalf("CallRow(%v, %v, %q) is %q, %v", m, k, call, row, ok)
					}
				}
			}
		}
	}
}

func TestCallEqualToThePlainChangeHasNoEffect(t *testing.T) {
	for n := 3; n <= 8; n++ {
		rounds := rounds8[:n]
		for _, m := range methodsWith(n, randomLists(n, 2)) {
			last := m.Changes[len(m.Changes)-1]
			other := otherChange(n, last)
			for call, k := range map[string]impl.Calls{"p": {Bob: other, Single: other}, "b": {Bob: last, Single: other}, "s": {Bob: other, Single: last}} {
				checkEffect(t, m, k, call, rounds, 1, nil)
				checkSameLead(t, m, k, "p", call, true)
				if called := mustCalledLead(t, m, k, call); !impl.SameMethod(called, m) {
					t.Fatalf("CalledLead(%v, %v, %q) is %v", m, k, call, called)
				}
			}
		}
	}
}

func TestHeadsAgreeExactlyIfTheChangesDo(t *testing.T) {
	for n := 3; n <= 8; n++ {
		m := methodsWith(n, randomLists(n, 1))[12]
		last := m.Changes[len(m.Changes)-1]
		for _, k := range allCalls(n) {
			checkSameLead(t, m, k, "p", "b", last == k.Bob)
			checkSameLead(t, m, k, "s", "p", last == k.Single)
			checkSameLead(t, m, k, "b", "s", k.Bob == k.Single)
			for _, call := range letters {
				checkSameLead(t, m, k, call, call, true)
			}
		}
	}
}

func TestEffectsKnown(t *testing.T) {
	for _, k := range []struct {
		n            int
		plain, call  string
		effect       string
		order, moved int
	}{
		{3, "1", "3", "312", 3, 3},
		{3, "3", "1", "231", 3, 3},
		{4, "12", "34", "2143", 2, 4},
		{4, "-", "12", "2134", 2, 2},
		{4, "-", "14", "2413", 4, 4},
		{5, "1", "5", "31524", 5, 5},
		{5, "125", "1", "14253", 4, 4},
		{6, "12", "14", "142356", 3, 3},
		{6, "12", "1234", "124356", 2, 2},
		{6, "-", "1256", "213465", 2, 4},
		{7, "1", "7", "3152746", 7, 7},
		{8, "12", "14", "14235678", 3, 3},
		{8, "12", "1234", "12435678", 2, 2},
		{8, "-", "18", "24163857", 8, 8},
	} {
		m := impl.Method{Name: "a", Stage: k.n, Changes: []string{changesOf(k.n)[0], k.plain}}
		other := otherChange(k.n, k.call)
		for call, calls := range map[string]impl.Calls{"b": {Bob: k.call, Single: other}, "s": {Bob: other, Single: k.call}} {
			checkEffect(t, m, calls, call, k.effect, k.order, plainMoved(k.effect))
			if moved, _ := impl.MovedBells(m, calls, call); len(moved) != k.moved {
				t.Errorf("MovedBells(%v, %v, %q) is %d", m, calls, call, moved)
			}
		}
	}
}

func TestCallsAreChangesOfTheStage(t *testing.T) {
	for n := 3; n <= 8; n++ {
		m := methodsWith(n, randomLists(n, 1))[3]
		good := changesOf(n)[0]
		for other := 3; other <= 8; other++ {
			for _, c := range changesOf(other) {
				want := slices.Contains(changesOf(n), c)
				if impl.GoodCalls(m, impl.Calls{Bob: c, Single: good}) != want || impl.GoodCalls(m, impl.Calls{Bob: good, Single: c}) != want {
					t.Errorf("GoodCalls with %q on %d bells is not %v", c, n, want)
				}
			}
		}
	}
}

func TestInvalidCallsGiveZeroValues(t *testing.T) {
	for n := 3; n <= 8; n++ {
		for i, m := range methodsWith(n, randomLists(n, 1))[:6] {
			for j, k := range badPairs(n) {
				a, b := letters[j%3], letters[(i+j/3)%3]
				if results := callCallFunctions(m, k, a, b); !allZero(results) {
					t.Errorf("with %v, %q, %q and %q the functions return %v", m, k, a, b, results)
				}
			}
		}
	}
}

func TestCallsOfInvalidMethodsGiveZeroValues(t *testing.T) {
	for i, m := range badMethods() {
		for j, k := range pairsOfStage(m.Stage) {
			a, b := letters[j%3], letters[(i+j/3)%3]
			if results := callCallFunctions(m, k, a, b); !allZero(results) {
				t.Errorf("with %v, %q, %q and %q the functions return %v", m, k, a, b, results)
			}
		}
	}
}

func TestNoCallGivesZeroValues(t *testing.T) {
	for n := 3; n <= 8; n++ {
		m := methodsWith(n, randomLists(n, 1))[7]
		k := callsFor(m)[4]
		for _, call := range badCalls() {
			// What needs no call succeeds all the same.
			results := callCallFunctions(m, k, call, "p")
			heads, ok := results[11].([]string)
			if results[0] != true || !ok || len(heads) != 3 || results[12] != true {
				t.Errorf("with %q the functions without a call return %v", call, results)
			}
			if !allZero(results[1:11]) || !allZero(results[13:]) {
				t.Errorf("with %v, %q and %q the functions return %v", m, k, call, results)
			}
			for _, good := range append(letters, call) {
				if same, ok := impl.SameLead(m, k, good, call); same || ok {
					t.Errorf("SameLead(%v, %q, %q, %q) is %v, %v", m, k, good, call, same, ok)
				}
			}
		}
	}
}

func TestCallResultsShareNoMemoryWithTheirArguments(t *testing.T) {
	k := impl.Calls{Bob: "14", Single: "1234"}
	for _, call := range letters {
		changes, back := withSpareRows([]string{"-", "14", "-", "16", "-", "12"})
		kept := slices.Clone(back)
		m := impl.Method{Name: "a", Stage: 6, Changes: changes}
		want := callCallFunctions(copyOf(m), k, call, "s")
		called := mustCalledLead(t, m, k, call)
		overwrite(called.Changes)
		heads, _ := impl.CallHeads(m, k)
		overwrite(heads)
		moved, _ := impl.MovedBells(m, k, call)
		overwriteNumbers(moved)
		if !slices.Equal(back, kept) {
			t.Fatalf("the changes become %q with the results", back)
		}
		results := callCallFunctions(m, k, call, "s")
		if !reflect.DeepEqual(results, want) {
			t.Errorf("results are %v after others are overwritten", results)
		}
		overwrite(back)
		if !reflect.DeepEqual(results, want) {
			t.Errorf("results become %v with the changes", results)
		}
	}
}

func TestCallFunctionsAcceptAllArguments(t *testing.T) {
	methods, pairs := allMethodsAndPairs()
	calls := append(badCalls(), letters...)
	for i, m := range methods {
		changes, back := withSpareRows(m.Changes)
		kept := slices.Clone(back)
		given := impl.Method{Name: m.Name, Stage: m.Stage, Changes: changes}
		k, a, b := pairs[i%len(pairs)], calls[i%len(calls)], letters[i%3]
		if i%2 == 0 {
			a, b = b, letters[(i/2)%3]
		}
		first := callCallFunctions(given, k, a, b)
		if again := callCallFunctions(given, k, a, b); !reflect.DeepEqual(first, again) {
			t.Fatalf("calls with %v, %q, %q and %q return %v and then %v", m, k, a, b, first, again)
		}
		if !impl.SameMethod(given, m) || !slices.Equal(back, kept) {
			t.Fatalf("arguments are changed: %q", kept)
		}
	}
}

func FuzzCallFunctions(f *testing.F) {
	f.Add("plain", 4, "- 14 - 14 - 14 - 12", "14", "12", "b", "s")
	f.Add("abcdefghij", 5, "5 1 5 1 5 125", "145", "12345", "p", "x")
	f.Add("a", 3, "1", "3", "1", "s", "p")
	f.Add("A", 8, "18", "", "-", "", "bb")
	f.Fuzz(func(t *testing.T, name string, n int, changes, bob, single, a, b string) {
		m := impl.Method{Name: name, Stage: n, Changes: strings.Fields(changes)}
		k := impl.Calls{Bob: bob, Single: single}
		results := callCallFunctions(m, k, a, b)
		_, isBob := plainChangeRow(n, bob)
		_, isSingle := plainChangeRow(n, single)
		if !impl.GoodMethod(m) || !isBob || !isSingle {
			if !allZero(results) {
				t.Fatalf("with %v, %q, %q and %q the functions return %v", m, k, a, b, results)
			}
			return
		}
		checkCalls(t, m, k)
		if !slices.Contains(letters, a) && (!allZero(results[1:11]) || !allZero(results[13:])) {
			t.Fatalf("with %v, %q, %q and %q the functions return %v", m, k, a, b, results)
		}
	})
}
