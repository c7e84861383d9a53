package rate_test

import (
	"slices"
	"testing"

	"falsework/api"
	"falsework/mixer"
	"falsework/rate"
)

func terms(margin, floor, limit int64) api.Terms {
	return api.Terms{Margin: margin, Floor: floor, Cap: limit}
}

// table: days and indices, by turns.
func table(numbers ...int64) []api.Reset {
	var out []api.Reset
	for pair := range slices.Chunk(numbers, 2) {
		out = append(out, api.Reset{Day: pair[0], Index: pair[1]})
	}
	return out
}

// long: so many resets, one a day.
func long(count int) []api.Reset {
	out := make([]api.Reset, count)
	for i := range out {
		out[i] = api.Reset{Day: int64(i), Index: int64(100 + i)}
	}
	return out
}

// P5.2
func TestRight(t *testing.T) {
	for _, x := range []api.Terms{
		terms(0, 0, 0),
		terms(150, 200, 600),
		terms(-150, 200, 600),
		terms(0, 300, 300),
		terms(10000, 0, 1),
		terms(-10000, 0, 1),
		terms(0, 0, 10000),
		terms(0, 10000, 10000),
		terms(10000, 10000, 10000),
	} {
		if !rate.Right(x) {
			t.Errorf("Right(%+v) = false", x)
		}
	}
}

// P5.2, and ErrRate of P5.3
func TestWrongTerms(t *testing.T) {
	for _, x := range []api.Terms{
		terms(10001, 0, 1),
		terms(-10001, 0, 1),
		terms(most, 0, 1),
		terms(least, 0, 1),
		terms(1<<32, 0, 1),
		terms(0, -1, 1),
		terms(0, -1, -1),
		terms(0, least, 1),
		terms(0, 0, -1),
		terms(0, -2, -1),
		terms(0, 2, 1),
		terms(0, 1, 0),
		terms(0, 10001, 10000),
		terms(0, 10000, 9999),
		terms(0, 0, 10001),
		terms(0, 10001, 10001),
		terms(0, 0, most),
		terms(0, most, most),
		terms(0, least, least),
		terms(0, least, most),
		terms(0, most, least),
		terms(0, 0, 1<<32),
	} {
		if rate.Right(x) {
			t.Errorf("Right(%+v) = true", x)
		}
		checkRate(t, x, table(10, 100), 10, 0, api.ErrRate)
	}
}

// rightTables: with lists that are at the edges of being TABLES.
func rightTables() [][]api.Reset {
	return [][]api.Reset{
		nil,
		{},
		table(10, 100),
		table(0, 0),
		table(-5, 100),
		table(10, 10000),
		table(10, -10000),
		table(10, 100, 11, 100),
		table(10, 100, 20, -500, 30, 100),
		table(-20, 1, -10, 2, 0, 3, 10, 4),
		table(least, 1),
		table(most, 1),
		table(least, 1, most, 2),
		table(least, 1, least+1, 2, 0, 3, most-1, 4, most, 5),
		long(63),
		long(64),
	}
}

// changed: 64 resets, of which one is another one.
func changed(at int, x api.Reset) []api.Reset {
	out := long(64)
	out[at] = x
	return out
}

func wrongTables() [][]api.Reset {
	return [][]api.Reset{
		table(10, 10001),
		table(10, -10001),
		table(10, most),
		table(10, least),
		table(10, 1<<32),
		table(10, 100, 10, 100),
		table(10, 100, 9, 100),
		table(10, 100, 20, 200, 20, 300),
		table(10, 100, 20, 200, 15, 300),
		table(10, 100, 10, 200, 20, 300),
		table(20, 100, 10, 200, 30, 300),
		table(10, 10001, 20, 200),
		table(10, 100, 20, -10001),
		// 64 bits with a sign would take this difference for one above 0.
		table(most, 1, least, 2),
		table(most, 1, most, 2),
		table(least, 1, least, 2),
		long(65),
		long(66),
		long(1000),
		make([]api.Reset, 65),
		changed(0, api.Reset{Day: 1, Index: 0}),
		changed(31, api.Reset{Day: 31, Index: 10001}),
		changed(31, api.Reset{Day: 30, Index: 0}),
		changed(31, api.Reset{Day: 32, Index: 0}),
		changed(63, api.Reset{Day: 62, Index: 0}),
		changed(63, api.Reset{Day: 63, Index: -10001}),
	}
}

// P5.2
func TestTable(t *testing.T) {
	for _, l := range rightTables() {
		if !rate.Table(l) {
			t.Errorf("Table(%v) = false", l)
		}
	}
	for _, l := range wrongTables() {
		if rate.Table(l) {
			t.Errorf("Table(%v) = true", l)
		}
	}
}

func checkAdd(t *testing.T, l []api.Reset, x api.Reset, want []api.Reset, wantErr api.Errno) {
	t.Helper()
	got, err := rate.Add(l, x)
	if !slices.Equal(got, want) || err != wantErr {
		t.Errorf("Add(%v, %v) = %v, %d; want %v, %d", l, x, got, err, want, wantErr)
	}
}

// P5.2
func TestAdd(t *testing.T) {
	reset := api.Reset{Day: 30, Index: -200}
	checkAdd(t, nil, reset, table(30, -200), api.OK)
	checkAdd(t, []api.Reset{}, reset, table(30, -200), api.OK)
	checkAdd(t, table(29, 7), reset, table(29, 7, 30, -200), api.OK)
	checkAdd(t, table(10, 100, 20, 500), reset, table(10, 100, 20, 500, 30, -200), api.OK)
	checkAdd(t, nil, api.Reset{Day: least, Index: 10000}, table(least, 10000), api.OK)
	checkAdd(t, table(least, 10000), api.Reset{Day: most, Index: -10000}, table(least, 10000, most, -10000), api.OK)
	checkAdd(t, long(63), long(64)[63], long(64), api.OK)
}

// P5.2
func TestAddErrRate(t *testing.T) {
	for _, l := range wrongTables() {
		// Behind any day but the last one of all, with an index that may be.
		checkAdd(t, l, api.Reset{Day: most, Index: 0}, nil, api.ErrRate)
	}
	checkAdd(t, long(64), api.Reset{Day: 64, Index: 0}, nil, api.ErrRate)
	for _, x := range []api.Reset{
		{Day: 20, Index: 0},
		{Day: 20, Index: 500},
		{Day: 19, Index: 0},
		{Day: 10, Index: 0},
		{Day: 9, Index: 0},
		{Day: least, Index: 0},
		{Day: 21, Index: 10001},
		{Day: 21, Index: -10001},
		{Day: 21, Index: most},
		{Day: 21, Index: least},
	} {
		checkAdd(t, table(10, 100, 20, 500), x, nil, api.ErrRate)
	}
	checkAdd(t, nil, api.Reset{Day: 21, Index: 10001}, nil, api.ErrRate)
	checkAdd(t, nil, api.Reset{Day: 21, Index: -10001}, nil, api.ErrRate)
	checkAdd(t, table(most, 1), api.Reset{Day: most, Index: 1}, nil, api.ErrRate)
	checkAdd(t, table(most, 1), api.Reset{Day: least, Index: 1}, nil, api.ErrRate)
}

// fill writes over a list, spare room too.
func fill(l []api.Reset) {
	for i := range cap(l) {
		l[:cap(l)][i] = api.Reset{Day: -7, Index: -7}
	}
}

// Rules that hold everywhere: what is handed in, spare room too, isn't changed, whether there is an error or not.
func TestAddChangesNothing(t *testing.T) {
	room := long(10)
	for count := range 9 {
		l := room[:count]
		for _, x := range []api.Reset{{Day: 100, Index: 1}, {Day: 100, Index: 10001}, {Day: -1, Index: 1}} {
			rate.Add(l, x)
			if !slices.Equal(room, long(10)) {
				t.Fatalf("Add of %d resets and %v: what was handed in is now %v", count, x, room)
			}
		}
	}
}

// Rules that hold everywhere: an answer is new memory, spare room too.
func TestAddSharesNothing(t *testing.T) {
	for _, count := range []int{0, 1, 2, 3, 4, 7, 8, 9, 62, 63} {
		room := long(100)
		l := room[:count]
		x := api.Reset{Day: 1000, Index: 1}
		want := append(long(count), x)
		one, _ := rate.Add(l, x)
		other, _ := rate.Add(l, x)
		fill(one)
		if !slices.Equal(room, long(100)) {
			t.Errorf("the answer for %d resets shares memory with what was handed in", count)
		}
		if !slices.Equal(other, want) {
			t.Errorf("two answers for %d resets share memory", count)
		}
		fill(room)
		if !slices.Equal(other, want) {
			t.Errorf("what was handed in, %d resets, is kept in the answer", count)
		}
	}
}

func checkAt(t *testing.T, l []api.Reset, day, want int64, wantTold bool) {
	t.Helper()
	if got, told := rate.At(l, day); got != want || told != wantTold {
		t.Errorf("At(%v, %d) = %d, %t; want %d, %t", l, day, got, told, want, wantTold)
	}
}

// P5.2
func TestAt(t *testing.T) {
	l := table(10, 100, 20, 500, 30, -200, 31, 0)
	for _, c := range []struct {
		day, want int64
		told      bool
	}{
		{least, 0, false},
		{-10, 0, false},
		{0, 0, false},
		{9, 0, false},
		{10, 100, true},
		{11, 100, true},
		{19, 100, true},
		{20, 500, true},
		{29, 500, true},
		{30, -200, true},
		{31, 0, true},
		{1000, 0, true},
		{most, 0, true},
	} {
		checkAt(t, l, c.day, c.want, c.told)
	}
	for _, day := range []int64{least, -1, 0, 1, most} {
		checkAt(t, nil, day, 0, false)
		checkAt(t, []api.Reset{}, day, 0, false)
	}
	ends := table(least, 7, most, -8)
	checkAt(t, ends, least, 7, true)
	checkAt(t, ends, 0, 7, true)
	checkAt(t, ends, most-1, 7, true)
	checkAt(t, ends, most, -8, true)
	checkAt(t, table(most, 3), most-1, 0, false)
	for day := range int64(64) {
		checkAt(t, long(64), day, 100+day, true)
	}
}

func checkRate(t *testing.T, x api.Terms, l []api.Reset, day, want int64, wantErr api.Errno) {
	t.Helper()
	if got, err := rate.Rate(x, l, day); got != want || err != wantErr {
		t.Errorf("Rate(%+v, %v, %d) = %d, %d; want %d, %d", x, l, day, got, err, want, wantErr)
	}
}

// P5.3: one index, with all kinds of terms.
func TestRate(t *testing.T) {
	for _, c := range []struct {
		index int64
		x     api.Terms
		want  int64
	}{
		{300, terms(150, 200, 600), 450},
		{300, terms(-50, 200, 600), 250},
		{300, terms(0, 0, 10000), 300},
		{-100, terms(450, 0, 10000), 350},
		// The floor.
		{50, terms(150, 200, 600), 200},
		{51, terms(150, 200, 600), 201},
		{49, terms(150, 200, 600), 200},
		{-500, terms(150, 200, 600), 200},
		{-500, terms(150, 0, 600), 0},
		{-150, terms(150, 0, 600), 0},
		{-10000, terms(-10000, 0, 10000), 0},
		{-10000, terms(-10000, 1, 10000), 1},
		// The cap.
		{450, terms(150, 200, 600), 600},
		{449, terms(150, 200, 600), 599},
		{451, terms(150, 200, 600), 600},
		{10000, terms(10000, 0, 10000), 10000},
		{10000, terms(10000, 0, 9999), 9999},
		{10000, terms(-10000, 0, 10000), 0},
		{-10000, terms(10000, 0, 10000), 0},
		{100, terms(0, 0, 0), 0},
		// The two as one.
		{-500, terms(0, 300, 300), 300},
		{300, terms(0, 300, 300), 300},
		{500, terms(0, 300, 300), 300},
	} {
		checkRate(t, c.x, table(10, c.index), 10, c.want, api.OK)
	}
}

// P5.3: from the day of a reset on the rate is another one.
func TestRateAtResets(t *testing.T) {
	l := table(10, 100, 20, 500, 30, -200, 31, 0)
	x := terms(150, 100, 600)
	for _, c := range []struct{ day, want int64 }{
		{10, 250}, {19, 250}, {20, 600}, {29, 600}, {30, 100}, {31, 150}, {32, 150}, {most, 150},
	} {
		checkRate(t, x, l, c.day, c.want, api.OK)
	}
	for _, day := range []int64{9, 0, -1, least} {
		checkRate(t, x, l, day, 0, api.ErrRate)
	}
	checkRate(t, x, nil, 10, 0, api.ErrRate)
	checkRate(t, x, []api.Reset{}, most, 0, api.ErrRate)
	checkRate(t, x, long(64), 63, 313, api.OK)
}

// P5.3: no TABLE, though there is an index at the day.
func TestRateOfWrongTables(t *testing.T) {
	for _, l := range wrongTables() {
		checkRate(t, terms(150, 200, 600), l, most, 0, api.ErrRate)
	}
}

// P1: of lists that are no TABLES, too, At answers.
func TestAtOfWrongTables(t *testing.T) {
	for _, l := range wrongTables() {
		for _, day := range []int64{least, 0, 15, most} {
			rate.At(l, day)
		}
	}
}

// within is the promise's own words.
func within(n, from, to int64) bool {
	return from <= n && n <= to
}

func modelRight(x api.Terms) bool {
	return within(x.Margin, -10000, 10000) && within(x.Floor, 0, 10000) && within(x.Cap, 0, 10000) && !(x.Floor > x.Cap)
}

// modelTable asks each with each.
func modelTable(l []api.Reset) bool {
	for i, x := range l {
		if !within(x.Index, -10000, 10000) {
			return false
		}
		for _, later := range l[i+1:] {
			if later.Day <= x.Day {
				return false
			}
		}
	}
	return len(l) <= 64
}

// modelRate goes back from the last reset.
func modelRate(x api.Terms, l []api.Reset, day int64) (int64, api.Errno) {
	if !modelRight(x) || !modelTable(l) {
		return 0, api.ErrRate
	}
	for i := len(l) - 1; i >= 0; i-- {
		if l[i].Day > day {
			continue
		}
		switch sum := l[i].Index + x.Margin; {
		case sum < x.Floor:
			return x.Floor, api.OK
		case sum > x.Cap:
			return x.Cap, api.OK
		default:
			return sum, api.OK
		}
	}
	return 0, api.ErrRate
}

// mostly: a number from low to high; now and then one a bit beyond, or of any size.
func mostly(m *mixer.Mixer, low, high int64) int64 {
	n := low + int64(m.Next()%uint64(high-low+1))
	switch m.Next() % 100 {
	case 0:
		return m.AnySize()
	case 1:
		return low - int64(m.Next()%2)
	case 2:
		return high + int64(m.Next()%2)
	}
	return n
}

// mixedTable: up to 66 resets, whose days mostly rise.
func mixedTable(m *mixer.Mixer) []api.Reset {
	count := m.Next() % 6
	if m.Next()%20 == 0 {
		count = 60 + m.Next()%7
	}
	l := make([]api.Reset, count)
	day := int64(m.Next() % 50)
	for i := range l {
		l[i] = api.Reset{Day: day, Index: mostly(m, -10000, 10000)}
		day += mostly(m, 1, 40)
	}
	return l
}

// P5.2, P5.3
func TestRateByModel(t *testing.T) {
	m := mixer.Mixer(52)
	for range 50000 {
		floor := mostly(&m, 0, 10000)
		x := terms(mostly(&m, -10000, 10000), floor, mostly(&m, min(max(floor, 0), 10000), 10000))
		if rate.Right(x) != modelRight(x) {
			t.Errorf("Right(%+v) = %t", x, rate.Right(x))
		}
		l := mixedTable(&m)
		if rate.Table(l) != modelTable(l) {
			t.Errorf("Table(%v) = %t", l, rate.Table(l))
		}
		day := mostly(&m, 0, 200)
		want, wantErr := modelRate(x, l, day)
		checkRate(t, x, l, day, want, wantErr)
		checkAddByModel(t, l, api.Reset{Day: mostly(&m, 0, 200), Index: mostly(&m, -10000, 10000)})
	}
}

func checkAddByModel(t *testing.T, l []api.Reset, x api.Reset) {
	t.Helper()
	want := append(slices.Clone(l), x)
	if modelTable(l) && modelTable(want) {
		checkAdd(t, l, x, want, api.OK)
	} else {
		checkAdd(t, l, x, nil, api.ErrRate)
	}
}
