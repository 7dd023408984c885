package tests

import (
	"math"
	"math/rand"
	"reflect"
	"slices"
	"strings"
	"testing"

	"loop.example/g00894/impl"
)

// plainPath is the places of a bell in rows, looked up by the digit of the bell.
func plainPath(rows []string, bell int) []int {
	var path []int
	for _, row := range rows {
		path = append(path, strings.IndexByte(row, rounds8[bell-1])+1)
	}
	return path
}

func plainPaths(n int, rows []string) [][]int {
	var paths [][]int
	for bell := 1; bell <= n; bell++ {
		paths = append(paths, plainPath(rows, bell))
	}
	return paths
}

// plainPlaceBells follows a bell from lead end to lead end until it is where it was first.
func plainPlaceBells(m impl.Method, bell int) []int {
	head := plainLead(m, rounds8[:m.Stage])[len(m.Changes)]
	var cycle []int
	for !slices.Contains(cycle, bell) {
		cycle = append(cycle, bell)
		bell = strings.IndexByte(head, rounds8[bell-1]) + 1
	}
	return cycle
}

// plainWork has a letter for each step of a path: "?" where neighbours differ by more than one.
func plainWork(path []int) string {
	var work string
	for i := 1; i < len(path); i++ {
		letter, ok := map[int]string{1: "/", 0: "=", -1: "\\"}[path[i]-path[i-1]]
		if !ok {
			letter = "?"
		}
		work += letter
	}
	return work
}

// plainDodges reads the dodges off the text of the steps, in which step i is letter i-1.
func plainDodges(path []int) []int {
	work := plainWork(path)
	var indexes []int
	for i := 1; i+2 <= len(work); i++ {
		if three := work[i-1 : i+2]; three == "/\\/" || three == "\\/\\" {
			indexes = append(indexes, i)
		}
	}
	return indexes
}

func plainPoints(path []int) []int {
	var indexes []int
	for i := range path {
		if i > 0 && i < len(path)-1 && path[i-1] == path[i+1] && path[i] != path[i-1] {
			indexes = append(indexes, i)
		}
	}
	return indexes
}

// shortPaths are all paths of 0 to most places.
func shortPaths(most int) [][]int {
	var paths [][]int
	var extend func(path []int)
	extend = func(path []int) {
		paths = append(paths, path)
		if len(path) == most {
			return
		}
		for place := 1; place <= 8; place++ {
			if len(path) == 0 || (place-path[len(path)-1] <= 1 && path[len(path)-1]-place <= 1) {
				extend(append(slices.Clone(path), place))
			}
		}
	}
	extend(nil)
	return paths
}

// randomPath is a path of a length with many dodges, points and places in it, the same one in every run.
func randomPath(length int) []int {
	source := rand.New(rand.NewSource(int64(length)))
	path := make([]int, length)
	place := 1 + source.Intn(8)
	for i := range path {
		path[i] = place
		place = min(8, max(1, place+source.Intn(3)-1))
	}
	return path
}

// randomRows are rows of a stage in any order, neighbours or not, with repetitions.
func randomRows(n int, length int) []string {
	source := rand.New(rand.NewSource(int64(n*1000 + length)))
	all := rowsOf(n)
	rows := make([]string, length)
	for i := range rows {
		rows[i] = all[source.Intn(len(all))]
	}
	return rows
}

func copyOfPaths(paths [][]int) [][]int {
	var copied [][]int
	for _, path := range paths {
		copied = append(copied, slices.Clone(path))
	}
	return copied
}

func samePaths(a, b [][]int) bool {
	return slices.EqualFunc(a, b, slices.Equal[[]int])
}

func checkBell(t *testing.T, m impl.Method, bell int) {
	t.Helper()
	path := plainPath(plainLead(m, rounds8[:m.Stage]), bell)
	if got, ok := impl.PathOf(m, bell); !ok || !slices.Equal(got, path) {
		t.Fatalf("PathOf(%v, %d) is %d, %v", m, bell, got, ok)
	}
	if got, ok := impl.WorkText(m, bell); got != plainWork(path) || !ok {
		t.Fatalf("WorkText(%v, %d) is %q, %v", m, bell, got, ok)
	}
	cycle := plainPlaceBells(m, bell)
	if got, ok := impl.PlaceBells(m, bell); !ok || !slices.Equal(got, cycle) {
		t.Fatalf("PlaceBells(%v, %d) is %d, %v", m, bell, got, ok)
	}
	var course []int
	for _, next := range cycle {
		course = append(course, plainPath(plainLead(m, rounds8[:m.Stage])[:len(m.Changes)], next)...)
	}
	if got, ok := impl.CoursePath(m, bell); !ok || !slices.Equal(got, course) {
		t.Fatalf("CoursePath(%v, %d) is %d, %v", m, bell, got, ok)
	}
}

func checkIndexes(t *testing.T, path []int) {
	t.Helper()
	if got, ok := impl.DodgesIn(path); !ok || !slices.Equal(got, plainDodges(path)) {
		t.Fatalf("DodgesIn(%d) is %d, %v", path, got, ok)
	}
	if got, ok := impl.PointsIn(path); !ok || !slices.Equal(got, plainPoints(path)) {
		t.Fatalf("PointsIn(%d) is %d, %v", path, got, ok)
	}
}

func checkNoPath(t *testing.T, path []int) {
	t.Helper()
	if got, ok := impl.DodgesIn(path); ok || len(got) != 0 {
		t.Errorf("DodgesIn(%d) is %d, %v", path, got, ok)
	}
	if got, ok := impl.PointsIn(path); ok || len(got) != 0 {
		t.Errorf("PointsIn(%d) is %d, %v", path, got, ok)
	}
}

func checkNoRows(t *testing.T, paths [][]int) {
	t.Helper()
	if rows, ok := impl.RowsOf(paths); ok || len(rows) != 0 {
		t.Errorf("RowsOf(%d) is %q, %v", paths, rows, ok)
	}
}

func TestPathsOfTheDocument(t *testing.T) {
	m := plainBob()
	paths := [][]int{
		{1, 2, 3, 4, 4, 3, 2, 1, 1},
		{2, 1, 1, 2, 3, 4, 4, 3, 4},
		{3, 4, 4, 3, 2, 1, 1, 2, 2},
		{4, 3, 2, 1, 1, 2, 3, 4, 3},
	}
	if got, ok := impl.PathsOf(m); !ok || !samePaths(got, paths) {
		t.Errorf("PathsOf is %d, %v", got, ok)
	}
	cycles := [][]int{{1}, {2, 4, 3}, {3, 2, 4}, {4, 3, 2}}
	works := []string{`///=\\\=`, `\=///=\/`, `/=\\\=/=`, `\\\=///\`}
	for i, path := range paths {
		if got, ok := impl.PathOf(m, i+1); !ok || !slices.Equal(got, path) {
			t.Errorf("PathOf bell %d is %d, %v", i+1, got, ok)
		}
		if got, ok := impl.PlaceBells(m, i+1); !ok || !slices.Equal(got, cycles[i]) {
			t.Errorf("PlaceBells of bell %d is %d, %v", i+1, got, ok)
		}
		if got, ok := impl.WorkText(m, i+1); got != works[i] || !ok {
			t.Errorf("WorkText of bell %d is %q, %v", i+1, got, ok)
		}
	}
	course := slices.Concat(paths[1][:8], paths[3][:8], paths[2][:8])
	if got, ok := impl.CoursePath(m, 2); !ok || !slices.Equal(got, course) {
		t.Errorf("CoursePath of bell 2 is %d, %v", got, ok)
	}
	if got, ok := impl.DodgesIn([]int{1, 2, 1, 2}); !ok || !slices.Equal(got, []int{1}) {
		t.Errorf("DodgesIn is %d, %v", got, ok)
	}
	if got, ok := impl.PointsIn([]int{1, 2, 1, 2}); !ok || !slices.Equal(got, []int{1, 2}) {
		t.Errorf("PointsIn is %d, %v", got, ok)
	}
}

func TestEveryBellByTheWords(t *testing.T) {
	for n := 3; n <= 8; n++ {
		for _, m := range methodsOf(n) {
			for bell := 1; bell <= n; bell++ {
				checkBell(t, m, bell)
			}
			if paths, ok := impl.PathsOf(m); !ok || !samePaths(paths, plainPaths(n, plainLead(m, rounds8[:n]))) {
				t.Fatalf("PathsOf(%v) is %d, %v", m, paths, ok)
			}
		}
	}
}

func TestPathsReconstructTheRows(t *testing.T) {
	for n := 3; n <= 8; n++ {
		for _, m := range methodsOf(n) {
			lead, _ := impl.LeadRows(m, rounds8[:n])
			want := append(lead, mustHead(t, m))
			paths, ok := impl.PathsOf(m)
			if rows, rebuilt := impl.RowsOf(paths); !ok || !rebuilt || !slices.Equal(rows, want) {
				t.Fatalf("the paths of %v give %q, %v", m, rows, rebuilt)
			}
			for i, path := range paths {
				if alone, ok := impl.PathOf(m, i+1); !ok || !slices.Equal(alone, path) {
					t.Fatalf("PathOf(%v, %d) is %d, %v", m, i+1, alone, ok)
				}
			}
		}
	}
}

func TestCoursePathsReconstructTheCourse(t *testing.T) {
	for n := 3; n <= 8; n++ {
		for _, m := range methodsOf(n) {
			course, _ := impl.CourseRows(m)
			var paths [][]int
			for bell := 1; bell <= n; bell++ {
				once, ok := impl.CoursePath(m, bell)
				if !ok || len(course)%len(once) != 0 {
					t.Fatalf("CoursePath(%v, %d) is %d, %v", m, bell, once, ok)
				}
				paths = append(paths, slices.Repeat(once, len(course)/len(once)))
			}
			if rows, ok := impl.RowsOf(paths); !ok || !slices.Equal(rows, course) {
				t.Fatalf("the course paths of %v give %q, %v", m, rows, ok)
			}
		}
	}
}

func TestLeadOfOneChangeAndOfMaxLead(t *testing.T) {
	for n := 3; n <= 8; n++ {
		for _, c := range changesOf(n) {
			for _, length := range []int{1, 40} {
				m := impl.Method{Name: "a", Stage: n, Changes: repeated(c, length)}
				for _, bell := range []int{1, n} {
					path, ok := impl.PathOf(m, bell)
					work, worked := impl.WorkText(m, bell)
					if !ok || !worked || len(path) != length+1 || len(work) != length || path[0] != bell {
						t.Fatalf("bell %d of %v has the path %d, %v and the work %q, %v", bell, m, path, ok, work, worked)
					}
					checkBell(t, m, bell)
				}
			}
		}
	}
}

func TestPlaceBellsKnown(t *testing.T) {
	known := []struct {
		n       int
		changes string
		cycles  [][]int
	}{
		{3, "1", [][]int{{1}, {2, 3}}},
		{3, "3 1", [][]int{{1, 3, 2}}},
		{3, "3 1 3", [][]int{{2}, {1, 3}}},
		{4, "12", [][]int{{1}, {2}, {3, 4}}},
		{4, "- 14", [][]int{{1, 3, 4, 2}}},
		{4, "14 -", [][]int{{1, 2, 4, 3}}},
		{5, "5 1 5 1 5 1 5 1 5 125", [][]int{{1}, {2, 4, 5, 3}}},
		{5, "5 1", [][]int{{1, 3, 5, 4, 2}}},
		{6, "- 16 - 16 - 16 - 16 - 16 - 12", [][]int{{1}, {2, 4, 6, 5, 3}}},
		{6, "- 16 - 16 - 16 - 16 - 16 - 16", [][]int{{1}, {2}, {3}, {4}, {5}, {6}}},
		{6, "- 34", [][]int{{1}, {2}, {3, 4}, {5}, {6}}},
		{7, "7 1 7 1 7 1 7 1 7 1 7 1 7 127", [][]int{{1}, {2, 4, 6, 7, 5, 3}}},
		{7, "7 1", [][]int{{1, 3, 5, 7, 6, 4, 2}}},
		{8, "- 18 - 18 - 18 - 18 - 18 - 18 - 18 - 12", [][]int{{1}, {2, 4, 6, 8, 7, 5, 3}}},
		{8, "- 18", [][]int{{1, 3, 5, 7, 8, 6, 4, 2}}},
		{8, "-", [][]int{{1, 2}, {3, 4}, {5, 6}, {7, 8}}},
	}
	for _, k := range known {
		m := impl.Method{Name: "a", Stage: k.n, Changes: strings.Fields(k.changes)}
		bells := 0
		for _, cycle := range k.cycles {
			bells += len(cycle)
			for i, bell := range cycle {
				// From each of its bells the same cycle begins with that bell.
				want := slices.Concat(cycle[i:], cycle[:i])
				if got, ok := impl.PlaceBells(m, bell); !ok || !slices.Equal(got, want) {
					t.Errorf("PlaceBells(%v, %d) is %d, %v", m, bell, got, ok)
				}
				if course, ok := impl.CoursePath(m, bell); !ok || len(course) != len(cycle)*len(m.Changes) || course[0] != bell {
					t.Errorf("CoursePath(%v, %d) is %d, %v", m, bell, course, ok)
				}
			}
		}
		if bells != k.n {
			t.Errorf("%v has %d bells in its cycles", m, bells)
		}
	}
}

func TestWorkTextKnown(t *testing.T) {
	for _, k := range []struct {
		n       int
		changes string
		works   []string
	}{
		{3, "1", []string{`=`, `/`, `\`}},
		{3, "3 1 3 1 3 1", []string{`//=\\=`, `\=//=\`, `=\\=//`}},
		{4, "- - 12 34", []string{`/\=/`, `\/=\`, `/\/=`, `\/\=`}},
		{5, "345 123", []string{`/=`, `\=`, `==`, `=/`, `=\`}},
		{8, "123456 -", []string{`=/`, `=\`, `=/`, `=\`, `=/`, `=\`, `/\`, `\/`}},
	} {
		m := impl.Method{Name: "a", Stage: k.n, Changes: strings.Fields(k.changes)}
		for i, want := range k.works {
			if work, ok := impl.WorkText(m, i+1); work != want || !ok {
				t.Errorf("WorkText(%v, %d) is %q, %v", m, i+1, work, ok)
			}
		}
	}
}

func TestBellsOutOfTheStage(t *testing.T) {
	for n := 3; n <= 8; n++ {
		for _, m := range methodsWith(n, randomLists(n, 1)) {
			// Added to the digit of a bell, some of these would give a digit again as a byte.
			for _, bell := range []int{math.MinInt, math.MinInt + 1, -256, -255, -n, -2, -1, 0, n + 1, n + 2, 9, 10, '0', '1', 255, 256, 257, 256 + n, 1<<32 + 1, math.MaxInt} {
				if results := callBellFunctions(m, bell); !allZero(results) {
					t.Errorf("with %v and bell %d the functions return %v", m, bell, results)
				}
			}
		}
	}
}

func TestPathsOfInvalidMethods(t *testing.T) {
	for _, m := range badMethods() {
		for _, bell := range []int{-1, 0, 1, 2, 3, 4, 8, 9} {
			if results := callBellFunctions(m, bell); !allZero(results) {
				t.Errorf("with %v and bell %d the functions return %v", m, bell, results)
			}
		}
		if paths, ok := impl.PathsOf(m); ok || len(paths) != 0 {
			t.Errorf("PathsOf(%v) is %d, %v", m, paths, ok)
		}
	}
}

func TestRowsOfEveryRow(t *testing.T) {
	for n := 3; n <= 8; n++ {
		for _, row := range rowsOf(n) {
			paths := plainPaths(n, []string{row})
			if rows, ok := impl.RowsOf(paths); !ok || !slices.Equal(rows, []string{row}) {
				t.Fatalf("RowsOf(%d) is %q, %v", paths, rows, ok)
			}
		}
	}
}

func TestRowsOfAnyRowsUpToMaxRows(t *testing.T) {
	for n := 3; n <= 8; n++ {
		for _, length := range []int{1, 2, 3, 24, 41, 799, 800} {
			want := randomRows(n, length)
			if rows, ok := impl.RowsOf(plainPaths(n, want)); !ok || !slices.Equal(rows, want) {
				t.Errorf("RowsOf %d rows of stage %d is %q, %v", length, n, rows, ok)
			}
		}
		for _, length := range []int{801, 802, 1600} {
			checkNoRows(t, plainPaths(n, randomRows(n, length)))
		}
	}
}

func TestRowsOfAnotherNumberOfPaths(t *testing.T) {
	for _, length := range []int{0, 1, 2, 40} {
		for _, n := range []int{0, 1, 2, 9, 10, 64} {
			var paths [][]int
			for bell := 1; bell <= n; bell++ {
				paths = append(paths, slices.Repeat([]int{bell}, length))
			}
			checkNoRows(t, paths)
		}
	}
	checkNoRows(t, nil)
	checkNoRows(t, [][]int{})
}

func TestRowsOfPathsOfDifferentLengths(t *testing.T) {
	for n := 3; n <= 8; n++ {
		checkNoRows(t, make([][]int, n))
		for _, length := range []int{1, 2, 9, 799, 800} {
			good := plainPaths(n, randomRows(n, length))
			for at := range n {
				for _, alter := range []func(path []int) []int{
					func(path []int) []int { return nil },
					func(path []int) []int { return path[:len(path)-1] },
					func(path []int) []int { return append(path, path[len(path)-1]) },
					func(path []int) []int { return append(path, path...) },
				} {
					paths := copyOfPaths(good)
					paths[at] = alter(paths[at])
					checkNoRows(t, paths)
				}
			}
		}
	}
}

func TestRowsOfPlacesThatMakeNoRow(t *testing.T) {
	for n := 3; n <= 8; n++ {
		good := plainPaths(n, randomRows(n, 12))
		for bell := range n {
			for i := range 12 {
				places := []int{math.MinInt, -256, -1, 0, n + 1, 9, '1', 256, 257, 1 << 32, math.MaxInt}
				// A place that another bell has is taken twice in this row.
				for other := range n {
					if other != bell {
						places = append(places, good[other][i])
					}
				}
				for _, place := range places {
					paths := copyOfPaths(good)
					paths[bell][i] = place
					checkNoRows(t, paths)
				}
			}
		}
	}
}

func TestDodgesAndPointsKnown(t *testing.T) {
	known := []struct{ path, dodges, points []int }{
		{nil, nil, nil},
		{[]int{}, nil, nil},
		{[]int{1}, nil, nil},
		{[]int{8}, nil, nil},
		{[]int{1, 2}, nil, nil},
		{[]int{4, 4}, nil, nil},
		{[]int{1, 2, 1}, nil, []int{1}},
		{[]int{8, 7, 8}, nil, []int{1}},
		{[]int{1, 2, 3}, nil, nil},
		{[]int{3, 3, 3}, nil, nil},
		{[]int{1, 1, 2}, nil, nil},
		{[]int{2, 1, 2, 1}, []int{1}, []int{1, 2}},
		{[]int{7, 8, 7, 8}, []int{1}, []int{1, 2}},
		{[]int{1, 2, 2, 1}, nil, nil},
		{[]int{1, 2, 1, 1}, nil, []int{1}},
		{[]int{1, 1, 2, 1}, nil, []int{2}},
		{[]int{1, 2, 1, 2, 3}, []int{1}, []int{1, 2}},
		{[]int{3, 2, 1, 2, 1}, []int{2}, []int{2, 3}},
		{[]int{1, 2, 2, 1, 2, 1}, []int{3}, []int{3, 4}},
		{[]int{5, 6, 6, 5, 5, 6}, nil, nil},
		{[]int{5, 6, 5, 5, 6, 5}, nil, []int{1, 4}},
		{[]int{5, 6, 5, 6, 5, 6}, []int{1, 2, 3}, []int{1, 2, 3, 4}},
		{[]int{1, 2, 1, 2, 3, 4, 3, 4, 5}, []int{1, 5}, []int{1, 2, 5, 6}},
		{[]int{1, 2, 3, 4, 4, 3, 2, 1, 1}, nil, nil},
		{[]int{2, 1, 1, 2, 3, 4, 4, 3, 4}, nil, []int{7}},
	}
	for _, k := range known {
		if got, ok := impl.DodgesIn(k.path); !ok || !slices.Equal(got, k.dodges) {
			t.Errorf("DodgesIn(%d) is %d, %v", k.path, got, ok)
		}
		if got, ok := impl.PointsIn(k.path); !ok || !slices.Equal(got, k.points) {
			t.Errorf("PointsIn(%d) is %d, %v", k.path, got, ok)
		}
	}
}

func TestDodgesAndPointsOfEveryShortPath(t *testing.T) {
	for _, path := range shortPaths(7) {
		checkIndexes(t, path)
	}
}

func TestDodgesAndPointsUpToMaxRows(t *testing.T) {
	for _, length := range []int{40, 41, 100, 798, 799, 800} {
		checkIndexes(t, randomPath(length))
		// All places but the ends of this path are points, and the first three steps of any four are a dodge.
		path := slices.Repeat([]int{4, 5}, length/2)
		points, _ := impl.PointsIn(path)
		dodges, _ := impl.DodgesIn(path)
		if n := len(path); len(points) != n-2 || points[n-3] != n-2 || len(dodges) != n-3 || dodges[n-4] != n-3 {
			t.Errorf("of %d places %d are points and %d dodges", n, len(points), len(dodges))
		}
		checkIndexes(t, path)
	}
	for _, length := range []int{801, 802, 1600} {
		checkNoPath(t, randomPath(length))
		checkNoPath(t, slices.Repeat([]int{3}, length))
	}
}

func TestPlacesThatMakeNoPath(t *testing.T) {
	for _, place := range []int{math.MinInt, -8, -1, 0, 9, 10, '1', 257, 1 << 32, math.MaxInt} {
		checkNoPath(t, []int{place})
		checkNoPath(t, []int{place, place})
	}
	for _, length := range []int{1, 2, 3, 4, 9, 800} {
		for _, at := range []int{0, 1, 2, length / 2, length - 2, length - 1} {
			if at < 0 || at >= length {
				continue
			}
			for first, step := range map[int]int{1: -1, 8: 1} {
				// The path leaves the places 1 to 8 by a single step and keeps to that place.
				path := slices.Repeat([]int{first}, length)
				for i := at; i < length; i++ {
					path[i] += step
				}
				checkNoPath(t, path)
			}
			if length == 1 {
				continue
			}
			for _, place := range []int{math.MinInt, -1, 0, 1, 2, 6, 7, 8, 9, math.MaxInt} {
				path := slices.Repeat([]int{4}, length)
				path[at] = place
				checkNoPath(t, path)
			}
		}
	}
}

func TestNeighboursThatDifferByMoreThanOne(t *testing.T) {
	for from := 1; from <= 8; from++ {
		for to := 1; to <= 8; to++ {
			for _, path := range [][]int{{from, to}, {from, from, to}, {from, to, to}, {from, to, from}, {from, to, from, to}} {
				if to-from > 1 || from-to > 1 {
					checkNoPath(t, path)
				} else {
					checkIndexes(t, path)
				}
			}
		}
	}
}

// callBellFunctions calls the functions that take a method and a bell, and returns what they return.
func callBellFunctions(m impl.Method, bell int) []any {
	path, ok1 := impl.PathOf(m, bell)
	cycle, ok2 := impl.PlaceBells(m, bell)
	course, ok3 := impl.CoursePath(m, bell)
	work, ok4 := impl.WorkText(m, bell)
	return []any{path, ok1, cycle, ok2, course, ok3, work, ok4}
}

// callPathFunctions calls every function of chapter 5 and returns what they return.
func callPathFunctions(m impl.Method, bell int, lists [][]int, path []int) []any {
	paths, ok1 := impl.PathsOf(m)
	rows, ok2 := impl.RowsOf(lists)
	dodges, ok3 := impl.DodgesIn(path)
	points, ok4 := impl.PointsIn(path)
	return append(callBellFunctions(m, bell), paths, ok1, rows, ok2, dodges, ok3, points, ok4)
}

func overwriteNumbers(l []int) {
	whole := l[:cap(l)]
	for i := range whole {
		whole[i] = -7
	}
}

func TestPathResultsAreNew(t *testing.T) {
	m := plainBob()
	rows := plainLead(m, "1234")
	want := plainPaths(4, rows)
	paths, _ := impl.PathsOf(m)
	for bell := 1; bell <= 4; bell++ {
		for i := range bell - 1 {
			overwriteNumbers(paths[i])
		}
		if !samePaths(paths[bell-1:], want[bell-1:]) {
			t.Fatalf("paths share memory: %d", paths)
		}
		path, _ := impl.PathOf(m, bell)
		cycle, _ := impl.PlaceBells(m, bell)
		course, _ := impl.CoursePath(m, bell)
		overwriteNumbers(path)
		overwriteNumbers(cycle)
		overwriteNumbers(course)
		checkBell(t, m, bell)
	}
	got, _ := impl.RowsOf(want)
	overwrite(got)
	if again, ok := impl.RowsOf(want); !ok || !slices.Equal(again, rows) {
		t.Errorf("RowsOf is %q, %v", again, ok)
	}
	path := []int{1, 2, 1, 2, 1}
	dodges, _ := impl.DodgesIn(path)
	points, _ := impl.PointsIn(path)
	overwriteNumbers(dodges)
	if !slices.Equal(points, []int{1, 2, 3}) || !slices.Equal(path, []int{1, 2, 1, 2, 1}) {
		t.Errorf("DodgesIn shares memory: %d and %d", points, path)
	}
	overwriteNumbers(points)
	checkIndexes(t, path)
}

func TestPathsShareNoMemoryWithTheirArguments(t *testing.T) {
	m := plainBob()
	given := plainPaths(4, plainLead(m, "1234"))
	path := []int{2, 3, 2, 3, 3}
	results := callPathFunctions(m, 2, given, path)
	want := callPathFunctions(plainBob(), 2, copyOfPaths(given), slices.Clone(path))
	overwrite(m.Changes)
	for _, list := range append(given, path) {
		overwriteNumbers(list)
	}
	if !reflect.DeepEqual(results, want) {
		t.Errorf("results become %v with their arguments", results)
	}
}

// someLists are lists of paths, with what is no path and makes no rows among them.
func someLists() [][][]int {
	lists := [][][]int{nil, {}, {nil}, {nil, nil, nil}, {{1}, {2}, {3}}, {{1}, {2}, {}}, {{3}, {3}, {3}}, {{math.MinInt}, {0}, {math.MaxInt}}}
	for n := 2; n <= 10; n++ {
		var paths [][]int
		for bell := 1; bell <= n; bell++ {
			paths = append(paths, []int{bell, n + 1 - bell})
		}
		lists = append(lists, paths)
	}
	return append(lists, plainPaths(8, randomRows(8, 800)), plainPaths(3, randomRows(3, 801)), make([][]int, 1<<10), [][]int{make([]int, 1<<14), randomPath(1 << 14)})
}

// withSpare copies numbers to the beginning of a longer slice, which is returned as well.
func withSpare(l []int) ([]int, []int) {
	back := append(slices.Clone(l), 1, 2, 3)
	return back[:len(l)], back
}

func TestPathFunctionsAcceptAllArguments(t *testing.T) {
	bells := []int{math.MinInt, -1, 0, 1, 2, 3, 4, 5, 8, 9, 257, math.MaxInt}
	methods := append(badMethods(), plainBob(), impl.Method{Name: strings.Repeat("a", 1<<20), Stage: 4, Changes: repeated("-", 1<<16)})
	for n := 3; n <= 8; n++ {
		methods = append(methods, methodsWith(n, randomLists(n, 1))...)
	}
	lists := someLists()
	for i, m := range methods {
		back := append(slices.Clone(m.Changes), "kept", "kept")
		keptChanges := slices.Clone(back)
		given := impl.Method{Name: m.Name, Stage: m.Stage, Changes: back[:len(m.Changes)]}
		var paths, backs [][]int
		for _, list := range lists[i%len(lists)] {
			path, whole := withSpare(list)
			paths, backs = append(paths, path), append(backs, whole)
		}
		path, whole := withSpare(randomPath(i % 810))
		backs = append(backs, whole)
		kept := copyOfPaths(backs)
		bell := bells[i%len(bells)]
		first := callPathFunctions(given, bell, paths, path)
		if again := callPathFunctions(given, bell, paths, path); !reflect.DeepEqual(first, again) {
			t.Fatalf("calls with %v, %d, %d and %d return %v and then %v", m, bell, paths, path, first, again)
		}
		if !impl.SameMethod(given, m) || !slices.Equal(back, keptChanges) || !samePaths(backs, kept) {
			t.Fatalf("arguments are changed: %q and %d", keptChanges, kept)
		}
	}
}

func FuzzPathFunctions(f *testing.F) {
	f.Add(4, "- 14 - 14 - 14 - 12", 2, "\x01\x02\x01\x02")
	f.Add(5, "5 1 5 1 5 125", 5, "\x08\x07\x08")
	f.Add(3, "1 3", 0, "")
	f.Add(9, "18", 9, "\x00\x09")
	f.Fuzz(func(t *testing.T, n int, changes string, bell int, places string) {
		var path []int
		for i := range len(places) {
			path = append(path, int(places[i]))
		}
		lists := slices.Collect(slices.Chunk(path, max(1, len(path)/8)))
		m := impl.Method{Name: "a", Stage: n, Changes: strings.Fields(changes)}
		results := callPathFunctions(m, bell, lists, path)
		if !impl.GoodMethod(m) || bell < 1 || bell > n {
			if !allZero(results[:8]) {
				t.Fatalf("with %v and bell %d the functions return %v", m, bell, results)
			}
		} else {
			checkBell(t, m, bell)
		}
		if rows, ok := impl.RowsOf(lists); ok && !samePaths(plainPaths(len(lists), rows), lists) {
			t.Fatalf("RowsOf(%d) is %q", lists, rows)
		}
		if _, ok := impl.DodgesIn(path); ok {
			checkIndexes(t, path)
		} else {
			checkNoPath(t, path)
		}
	})
}
