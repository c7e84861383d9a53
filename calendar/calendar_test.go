package calendar_test

import (
	"math"
	"testing"

	"falsework/api"
	"falsework/calendar"
	"falsework/civil"
)

const (
	least = math.MinInt64
	most  = math.MaxInt64
	// count is how many RIGHT dates there are.
	count = 146097
)

// date: a shorter way to write one.
func date(year, month, day int) api.Date {
	return api.Date{Year: year, Month: month, Day: day}
}

// number: that of a date that is told as a text.
func number(t *testing.T, s string) int64 {
	t.Helper()
	n, err := civil.Number(parsed(t, s))
	if err != api.OK {
		t.Fatal(s, err)
	}
	return n
}

func parsed(t *testing.T, s string) api.Date {
	t.Helper()
	d, err := civil.Parse(s)
	if err != api.OK {
		t.Fatal(s, err)
	}
	return d
}

func days(t *testing.T, holidays ...int64) *calendar.Days {
	t.Helper()
	d, err := calendar.New(holidays...)
	if err != api.OK || d == nil {
		t.Fatal("New:", d, err)
	}
	return d
}

// row: so many numbers, one behind the other.
func row(from int64, many int) []int64 {
	var out []int64
	for i := range many {
		out = append(out, from+int64(i))
	}
	return out
}

// wrongDates: none of them is RIGHT.
func wrongDates() []api.Date {
	return []api.Date{
		{},
		date(1899, 12, 31), date(2300, 1, 1), date(least, 1, 1), date(most, 12, 31), date(0, 1, 1),
		date(2024, 0, 1), date(2024, 13, 1), date(2024, -1, 31), date(2024, least, 1), date(2024, most, 1),
		date(2024, 1, 0), date(2024, 1, 32), date(2024, 4, 31), date(2024, 1, least), date(2024, 1, most),
		date(2023, 2, 29), date(1900, 2, 29), date(2024, 2, 30),
	}
}

// The section Errors: callers may hold the numbers themselves against an answer.
func TestErrorNumbers(t *testing.T) {
	if _, err := calendar.Months(api.Date{}, 0); err != 31 {
		t.Error("Months of what is no date:", err)
	}
	if _, err := calendar.Actual(api.Date{}, api.Date{}); err != 31 {
		t.Error("Actual of what is no date:", err)
	}
	if _, err := calendar.Thirty(api.Date{}, api.Date{}); err != 31 {
		t.Error("Thirty of what is no date:", err)
	}
	if _, err := calendar.New(make([]int64, 513)...); err != 41 {
		t.Error("too many holidays:", err)
	}
	if _, err := days(t).Roll(-1); err != 41 {
		t.Error("Roll of what is no date's number:", err)
	}
}

// P4.1
func TestMonths(t *testing.T) {
	for _, c := range []struct {
		from string
		n    int
		to   string
	}{
		// The chapter's own.
		{"2024-01-31", 1, "2024-02-29"},
		{"2024-02-29", 12, "2025-02-28"},
		// The same day.
		{"2024-01-15", 0, "2024-01-15"},
		{"2024-01-15", 1, "2024-02-15"},
		{"2024-01-15", 11, "2024-12-15"},
		{"2024-01-15", 12, "2025-01-15"},
		{"2024-12-15", 1, "2025-01-15"},
		{"2024-12-15", 13, "2026-01-15"},
		{"2024-01-15", -1, "2023-12-15"},
		{"2024-12-15", -11, "2024-01-15"},
		{"2024-12-15", -12, "2023-12-15"},
		{"2024-06-01", -18, "2022-12-01"},
		// Fewer days than that.
		{"2024-01-30", 1, "2024-02-29"},
		{"2023-01-29", 1, "2023-02-28"},
		{"2023-01-30", 1, "2023-02-28"},
		{"2024-03-30", -1, "2024-02-29"},
		{"2023-03-29", -1, "2023-02-28"},
		// As many days as that.
		{"2024-01-29", 1, "2024-02-29"},
		{"2024-01-28", 1, "2024-02-28"},
		{"2023-01-28", 1, "2023-02-28"},
		{"2024-01-30", 3, "2024-04-30"},
		{"2024-01-30", 2, "2024-03-30"},
		// The last day of its month.
		{"2024-04-30", 0, "2024-04-30"},
		{"2024-02-29", 0, "2024-02-29"},
		{"2024-04-30", 1, "2024-05-31"},
		{"2024-04-30", -1, "2024-03-31"},
		{"2024-05-31", 1, "2024-06-30"},
		{"2024-07-31", 1, "2024-08-31"},
		{"2023-02-28", 1, "2023-03-31"},
		{"2023-02-28", 12, "2024-02-29"},
		{"2023-02-28", -36, "2020-02-29"},
		{"2024-02-29", 1, "2024-03-31"},
		{"2024-02-29", -12, "2023-02-28"},
		{"2024-02-29", 48, "2028-02-29"},
		{"2000-02-29", 1200, "2100-02-28"},
		{"1900-02-28", 1200, "2000-02-29"},
		// Not the last one, though it would be in another year.
		{"2024-02-28", 1, "2024-03-28"},
		{"2024-02-28", 12, "2025-02-28"},
		{"2024-05-30", 1, "2024-06-30"},
		{"2024-05-30", 2, "2024-07-30"},
		// From one end of the calendar to the other.
		{"1900-01-01", 4799, "2299-12-01"},
		{"1900-01-31", 4799, "2299-12-31"},
		{"2299-12-31", -4799, "1900-01-31"},
		{"2299-12-01", -4799, "1900-01-01"},
		{"2299-11-30", 1, "2299-12-31"},
		{"1900-02-28", -1, "1900-01-31"},
	} {
		checkMonths(t, parsed(t, c.from), c.n, parsed(t, c.to), api.OK)
	}
}

// P4.1: there is no RIGHT date, or the number of months is too great.
func TestMonthsOutOfTheCalendar(t *testing.T) {
	for _, c := range []struct {
		from string
		n    int
	}{
		{"1900-01-01", -1}, {"1900-01-31", -1}, {"1900-12-31", -12}, {"2000-01-01", -1201},
		{"2299-12-31", 1}, {"2299-12-01", 1}, {"2299-01-01", 12}, {"2000-12-31", 3589},
		{"1900-01-01", 4800}, {"2299-12-31", -4800}, {"1900-01-01", -4800}, {"2299-12-31", 4800},
	} {
		checkMonths(t, parsed(t, c.from), c.n, api.Date{}, api.ErrDate)
	}
	for _, n := range []int{4801, -4801, 1 << 31, -1 << 31, 1 << 32, 1<<32 + 1, 12 << 40, most, most - 1, most - 22800, most / 12, least, least + 1, least / 12} {
		for _, from := range []string{"1900-01-01", "2024-01-31", "2299-12-31"} {
			checkMonths(t, parsed(t, from), n, api.Date{}, api.ErrDate)
		}
	}
}

// P4.1: what is no date, also if some months behind it one would be.
func TestMonthsOfWrongDates(t *testing.T) {
	for _, d := range wrongDates() {
		for _, n := range []int{0, 1, -1, 12, -12, 4800, -4800, 4801, most, least} {
			checkMonths(t, d, n, api.Date{}, api.ErrDate)
		}
	}
}

func checkMonths(t *testing.T, d api.Date, n int, want api.Date, wantErr api.Errno) {
	t.Helper()
	if got, err := calendar.Months(d, n); got != want || err != wantErr {
		t.Errorf("Months(%v, %d) = %v, %d; want %v, %d", d, n, got, err, want, wantErr)
	}
}

// P4.2
func TestActualAndThirty(t *testing.T) {
	for _, c := range []struct {
		from, to       string
		actual, thirty int64
	}{
		{"2024-01-15", "2024-01-15", 0, 0},
		{"2024-01-15", "2024-01-16", 1, 1},
		{"2024-01-16", "2024-01-15", -1, -1},
		{"2024-01-15", "2024-02-15", 31, 30},
		{"2024-02-15", "2024-03-15", 29, 30},
		{"2023-02-15", "2023-03-15", 28, 30},
		{"2024-12-15", "2025-01-15", 31, 30},
		{"2024-01-15", "2025-01-15", 366, 360},
		{"2025-01-15", "2024-01-15", -366, -360},
		// from's day is at most 30.
		{"2024-01-31", "2024-02-01", 1, 1},
		{"2024-01-30", "2024-02-01", 2, 1},
		{"2024-01-29", "2024-02-01", 3, 2},
		{"2024-01-31", "2024-02-29", 29, 29},
		// to's day is 30, if from's is at least 30, and else stays 31.
		{"2024-01-31", "2024-03-31", 60, 60},
		{"2024-01-30", "2024-03-31", 61, 60},
		{"2024-01-29", "2024-03-31", 62, 62},
		{"2024-01-01", "2024-01-31", 30, 30},
		{"2024-01-30", "2024-01-31", 1, 0},
		{"2024-01-31", "2024-01-31", 0, 0},
		{"2024-01-31", "2024-01-30", -1, 0},
		{"2024-01-31", "2024-01-29", -2, -1},
		{"2024-01-31", "2024-01-01", -30, -29},
		{"2024-01-29", "2024-01-31", 2, 2},
		{"2024-03-31", "2024-01-31", -60, -60},
		{"2024-04-30", "2024-05-31", 31, 30},
		// A February's last day is no 30th.
		{"2024-02-29", "2024-03-31", 31, 32},
		{"2023-02-28", "2023-03-31", 31, 33},
		{"2023-02-28", "2024-02-29", 366, 361},
		{"2023-12-31", "2024-12-31", 366, 360},
		// From one end of the calendar to the other.
		{"1900-01-01", "2299-12-31", 146096, 144000},
		{"2299-12-31", "1900-01-01", -146096, -143999},
		{"1900-01-31", "2299-12-31", 146066, 143970},
	} {
		from, to := parsed(t, c.from), parsed(t, c.to)
		checkActual(t, from, to, c.actual, api.OK)
		checkThirty(t, from, to, c.thirty, api.OK)
	}
}

// P4.2: one of them isn't RIGHT, or both.
func TestCountsOfWrongDates(t *testing.T) {
	for _, d := range wrongDates() {
		for _, right := range []api.Date{date(2024, 1, 1), date(1900, 1, 1), date(2299, 12, 31)} {
			checkActual(t, d, right, 0, api.ErrDate)
			checkActual(t, right, d, 0, api.ErrDate)
			checkThirty(t, d, right, 0, api.ErrDate)
			checkThirty(t, right, d, 0, api.ErrDate)
		}
		checkActual(t, d, d, 0, api.ErrDate)
		checkThirty(t, d, d, 0, api.ErrDate)
	}
}

func checkActual(t *testing.T, from, to api.Date, want int64, wantErr api.Errno) {
	t.Helper()
	if got, err := calendar.Actual(from, to); got != want || err != wantErr {
		t.Errorf("Actual(%v, %v) = %d, %d; want %d, %d", from, to, got, err, want, wantErr)
	}
}

func checkThirty(t *testing.T, from, to api.Date, want int64, wantErr api.Errno) {
	t.Helper()
	if got, err := calendar.Thirty(from, to); got != want || err != wantErr {
		t.Errorf("Thirty(%v, %v) = %d, %d; want %d, %d", from, to, got, err, want, wantErr)
	}
}

// P4.3: how many holidays there may be, each told once or all of them the same.
func TestNewTakesSoManyHolidays(t *testing.T) {
	for _, many := range []int{0, 1, 2, 511, 512} {
		d := days(t, row(1001, many)...)
		for i := range int64(many) {
			checkBusiness(t, d, 1001+i, false)
		}
		checkBusiness(t, d, 1000, 1000%7 < 5)
		behind := 1001 + int64(many)
		checkBusiness(t, d, behind, behind%7 < 5)
	}
	for _, many := range []int{513, 514, 1024, 100000} {
		checkTooMany(t, row(1001, many))
		checkTooMany(t, make([]int64, many))
	}
	days(t, make([]int64, 512)...)
}

func checkTooMany(t *testing.T, holidays []int64) {
	t.Helper()
	if d, err := calendar.New(holidays...); d != nil || err != api.ErrRoll {
		t.Errorf("New of %d holidays = %v, %d", len(holidays), d, err)
	}
}

// P4.3: nil and an empty list are one.
func TestNewOfNone(t *testing.T) {
	for _, d := range []*calendar.Days{days(t), days(t, nil...), days(t, []int64{}...)} {
		for n, want := range map[int64]bool{0: true, 4: true, 5: false, 6: false, 7: true} {
			checkBusiness(t, d, n, want)
		}
	}
}

// P4.3: what is handed in isn't changed, and may be written over.
func TestNewKeepsNoList(t *testing.T) {
	room := []int64{8, 1, 8, 3, 77, 78}
	d := days(t, room[:4]...)
	for i, want := range []int64{8, 1, 8, 3, 77, 78} {
		if room[i] != want {
			t.Error("changed:", room)
		}
		room[i] = 2
	}
	for n, want := range map[int64]bool{0: true, 1: false, 2: true, 3: false, 4: true, 7: true, 8: false, 9: true, 77: true, 78: true} {
		checkBusiness(t, d, n, want)
	}
}

// P4.3: two objects have holidays of their own.
func TestDaysAreApart(t *testing.T) {
	one, other := days(t, 1, 2), days(t, 2, 3)
	for n, want := range map[int64][2]bool{0: {true, true}, 1: {false, true}, 2: {false, false}, 3: {true, false}} {
		checkBusiness(t, one, n, want[0])
		checkBusiness(t, other, n, want[1])
	}
}

// P4.3: any number, those that no date has too.
func TestBusiness(t *testing.T) {
	// 2^63 leaves 1, by 7: most is a Monday, least a Sunday.
	d := days(t, 7, 5, -7, count, most-2, least+2, most, 7)
	for n, want := range map[int64]bool{
		0: true, 1: true, 2: true, 3: true, 4: true, 5: false, 6: false, 7: false, 8: true,
		-1: false, -2: false, -3: true, -4: true, -5: true, -6: true, -7: false, -8: false,
		count - 1: false, count: false, count + 1: true,
		most: false, most - 1: false, most - 2: false, most - 3: true, most - 7: true,
		least: false, least + 1: true, least + 2: false, least + 3: true, least + 6: false, least + 7: false,
	} {
		checkBusiness(t, d, n, want)
	}
}

func checkBusiness(t *testing.T, d *calendar.Days, n int64, want bool) {
	t.Helper()
	if got := d.Business(n); got != want {
		t.Errorf("Business(%d) = %t", n, got)
	}
}

// P4.3
func TestRollBackModified(t *testing.T) {
	// An Easter, with the 1st of May, and a year's end.
	d := days(t, number(t, "2024-05-01"), number(t, "2024-03-29"), number(t, "2024-04-01"), number(t, "2024-12-31"), number(t, "2025-01-01"), number(t, "2024-03-29"))
	for _, c := range []struct {
		day, roll, back, modified string
	}{
		// A business day stays.
		{"2024-03-28", "2024-03-28", "2024-03-28", "2024-03-28"},
		{"2024-04-02", "2024-04-02", "2024-04-02", "2024-04-02"},
		{"2024-04-30", "2024-04-30", "2024-04-30", "2024-04-30"},
		// The next one is in the same month.
		{"2024-04-06", "2024-04-08", "2024-04-05", "2024-04-08"},
		{"2024-04-07", "2024-04-08", "2024-04-05", "2024-04-08"},
		{"2024-05-01", "2024-05-02", "2024-04-30", "2024-05-02"},
		{"2024-04-01", "2024-04-02", "2024-03-28", "2024-04-02"},
		{"2025-01-01", "2025-01-02", "2024-12-30", "2025-01-02"},
		// It is in the next one.
		{"2024-03-29", "2024-04-02", "2024-03-28", "2024-03-28"},
		{"2024-03-30", "2024-04-02", "2024-03-28", "2024-03-28"},
		{"2024-03-31", "2024-04-02", "2024-03-28", "2024-03-28"},
		{"2024-08-31", "2024-09-02", "2024-08-30", "2024-08-30"},
		{"2024-12-31", "2025-01-02", "2024-12-30", "2024-12-30"},
	} {
		n := number(t, c.day)
		checkRoll(t, d, n, number(t, c.roll), api.OK)
		checkBack(t, d, n, number(t, c.back), api.OK)
		checkModified(t, d, n, number(t, c.modified), api.OK)
	}
}

// P4.3: Back may leave the month, too, if nothing in it is a business day.
func TestModifiedOutOfTheMonth(t *testing.T) {
	first, last := number(t, "2023-02-01"), number(t, "2023-02-28")
	d := days(t, row(first, 28)...)
	for n := first; n <= last; n++ {
		checkRoll(t, d, n, last+1, api.OK)
		checkBack(t, d, n, first-1, api.OK)
		checkModified(t, d, n, first-1, api.OK)
	}
}

// P4.3: the 32nd number is the last that may be it. 1001 is a Monday, 1145 a Friday.
func TestRollAndBackGoSoFar(t *testing.T) {
	for _, c := range []struct {
		many       int
		roll, back int64
		err        api.Errno
	}{
		{1, 1002, 1144, api.OK},
		{28, 1029, 1117, api.OK},
		{30, 1031, 1115, api.OK},
		{31, 1032, 1114, api.OK},
		{32, 0, 0, api.ErrRoll},
		{33, 0, 0, api.ErrRoll},
		{60, 0, 0, api.ErrRoll},
	} {
		checkRoll(t, days(t, row(1001, c.many)...), 1001, c.roll, c.err)
		checkBack(t, days(t, row(1146-int64(c.many), c.many)...), 1145, c.back, c.err)
	}
}

// P4.3: both sides of 31 steps, told by single numbers. 1001 is a Monday.
func TestLastStep(t *testing.T) {
	d := days(t, row(1001, 35)...)
	checkRoll(t, d, 1001, 0, api.ErrRoll) // 1036, the next Monday, is 35 steps away
	checkRoll(t, d, 1004, 0, api.ErrRoll)
	checkRoll(t, d, 1005, 1036, api.OK)
	checkRoll(t, d, 1035, 1036, api.OK)
	checkBack(t, d, 1035, 0, api.ErrRoll) // 998, the Friday before, is 37 steps away
	checkBack(t, d, 1030, 0, api.ErrRoll)
	checkBack(t, d, 1029, 998, api.OK)
	checkBack(t, d, 1001, 998, api.OK)
}

// P4.3: where Roll finds nothing, Modified is Back; where that finds nothing, neither does Modified.
func TestModifiedWithoutRoll(t *testing.T) {
	d := days(t, row(1001, 70)...)
	checkRoll(t, d, 1001, 0, api.ErrRoll)
	checkModified(t, d, 1001, 998, api.OK)
	checkModified(t, d, 1029, 998, api.OK)
	checkBack(t, d, 1030, 0, api.ErrRoll)
	checkRoll(t, d, 1030, 0, api.ErrRoll)
	checkModified(t, d, 1030, 0, api.ErrRoll)
	// Roll finds 1071, but in another month than that of 1042 (1902-11-08).
	checkRoll(t, d, 1042, 1071, api.OK)
	checkBack(t, d, 1042, 0, api.ErrRoll)
	checkModified(t, d, 1042, 0, api.ErrRoll)
	// Within the month it is Roll, whatever is before: 1064 is 1902-12-01.
	checkBack(t, d, 1064, 0, api.ErrRoll)
	checkRoll(t, d, 1064, 1071, api.OK)
	checkModified(t, d, 1064, 1071, api.OK)
}

// P4.3: at the calendar's ends; the last day of all is a Sunday, the first one a Monday.
func TestEndsOfTheCalendar(t *testing.T) {
	d := days(t, 0, 1)
	checkBack(t, d, 2, 2, api.OK)
	checkBack(t, d, 1, 0, api.ErrRoll)
	checkBack(t, d, 0, 0, api.ErrRoll)
	checkRoll(t, d, 0, 2, api.OK)
	checkModified(t, d, 0, 2, api.OK)
	checkModified(t, d, 1, 2, api.OK)
	checkBack(t, days(t), 0, 0, api.OK)

	d = days(t)
	friday := int64(count - 3)
	for n := friday; n < count; n++ {
		checkBack(t, d, n, friday, api.OK)
		checkModified(t, d, n, friday, api.OK)
	}
	checkRoll(t, d, friday, friday, api.OK)
	checkRoll(t, d, count-2, 0, api.ErrRoll)
	checkRoll(t, d, count-1, 0, api.ErrRoll)

	// A whole month at each end; the day before the last one is a Thursday.
	d = days(t, append(row(0, 31), row(count-31, 31)...)...)
	checkRoll(t, d, 0, 31, api.OK)
	checkModified(t, d, 0, 0, api.ErrRoll)
	checkModified(t, d, 30, 0, api.ErrRoll)
	checkModified(t, d, count-31, count-32, api.OK)
	checkModified(t, d, count-1, count-32, api.OK)
	// That Thursday too.
	d = days(t, row(count-32, 32)...)
	checkModified(t, d, count-31, count-33, api.OK)
	checkModified(t, d, count-2, count-33, api.OK)
	checkModified(t, d, count-1, 0, api.ErrRoll)
}

// P4.3: numbers that no date has, also those from which a step or two lead to one.
func TestRollOfWrongNumbers(t *testing.T) {
	for _, d := range []*calendar.Days{days(t), days(t, -3, -2, -1, 0, count, count+1, least, most)} {
		for _, n := range []int64{-1, -2, -3, -31, -32, -1000, count, count + 1, count + 2, count + 31, 1 << 32, least, least + 1, least + 31, most, most - 1, most - 31} {
			checkRoll(t, d, n, 0, api.ErrRoll)
			checkBack(t, d, n, 0, api.ErrRoll)
			checkModified(t, d, n, 0, api.ErrRoll)
		}
	}
}

func checkRoll(t *testing.T, d *calendar.Days, n, want int64, wantErr api.Errno) {
	t.Helper()
	if got, err := d.Roll(n); got != want || err != wantErr {
		t.Errorf("Roll(%d) = %d, %d; want %d, %d", n, got, err, want, wantErr)
	}
}

func checkBack(t *testing.T, d *calendar.Days, n, want int64, wantErr api.Errno) {
	t.Helper()
	if got, err := d.Back(n); got != want || err != wantErr {
		t.Errorf("Back(%d) = %d, %d; want %d, %d", n, got, err, want, wantErr)
	}
}

func checkModified(t *testing.T, d *calendar.Days, n, want int64, wantErr api.Errno) {
	t.Helper()
	if got, err := d.Modified(n); got != want || err != wantErr {
		t.Errorf("Modified(%d) = %d, %d; want %d, %d", n, got, err, want, wantErr)
	}
}

// P4.3
func TestBetween(t *testing.T) {
	d := days(t, 8, 12, 8, -1, -3, most-1, most-3, least+1)
	for _, c := range []struct {
		from, to int64
		want     int
	}{
		{0, 0, 0},
		{0, 1, 1},
		{0, 5, 5},
		{0, 7, 5},
		{4, 7, 1},
		{5, 7, 0},
		{7, 8, 1},
		{7, 9, 1},
		{8, 9, 0},
		{0, 14, 9}, // 12 is a Saturday, and a holiday
		{7, 14, 4},
		{-7, 0, 4}, // -1 is a Sunday, and a holiday; -3 is a Friday
		{-8, 1, 5},
		{count - 7, count + 7, 10},
		// None: from isn't before to.
		{1, 0, 0},
		{7, 0, 0},
		{most, least, 0},
		{0, least, 0},
		{most, 0, 0},
		{most, most, 0},
		{least, least, 0},
		{100000, 0, 0},
		// The ends of all numbers: least is a Sunday, most a Monday.
		{most - 1, most, 0},
		{most - 7, most, 4},
		{most - 8, most, 4},
		{least, least + 1, 0},
		{least, least + 3, 1},
		{least, least + 8, 4},
		{least + 2, least + 4, 2},
	} {
		checkBetween(t, d, c.from, c.to, c.want)
	}
}

// P4.3: a hundred thousand numbers are counted, one more isn't.
func TestBetweenOfMany(t *testing.T) {
	d := days(t)
	checkBetween(t, d, 0, 99999, 71429)
	checkBetween(t, d, 0, 100000, 71430)     // 14285 weeks, and five days
	checkBetween(t, d, -50000, 50000, 71429) // the five days are Tuesday to Saturday
	checkBetween(t, d, 5, 100005, 71428)     // Saturday to Wednesday
	checkBetween(t, d, most-100000, most, 71428)
	checkBetween(t, d, least, least+100000, 71429)
	checkBetween(t, days(t, row(0, 7)...), 0, 100000, 71425)
	for _, c := range [][2]int64{
		{0, 100001}, {-50000, 50001}, {5, 100006}, {0, 140000}, {0, 140001}, {0, count},
		{0, 1 << 32}, {0, 1<<32 + 5}, {-1, 1 << 62},
		{0, most}, {-1, most}, {least, -1}, {least, 0}, {least, 1}, {least, most}, {least, most - 1}, {least + 1, most},
		{most - 100001, most}, {least, least + 100001},
		// 64 bits with a sign would take these differences for others, some of them small ones.
		{least, most - 1<<62}, {-1 << 62, 1 << 62}, {-1<<62 - 1, 1 << 62}, {least + 5, most},
	} {
		checkBetween(t, d, c[0], c[1], 0)
	}
}

func checkBetween(t *testing.T, d *calendar.Days, from, to int64, want int) {
	t.Helper()
	if got := d.Between(from, to); got != want {
		t.Errorf("Between(%d, %d) = %d; want %d", from, to, got, want)
	}
}

// P2: asking changes nothing.
func TestAskingAgain(t *testing.T) {
	d := days(t, row(1001, 40)...)
	for range 3 {
		checkRoll(t, d, 1035, 1043, api.OK)
		checkBack(t, d, 1001, 998, api.OK)
		checkModified(t, d, 1001, 998, api.OK)
		checkBetween(t, d, 1001, 1048, 5)
		checkBusiness(t, d, 1043, true)
		checkBusiness(t, d, 1001, false)
	}
}
