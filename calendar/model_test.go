package calendar_test

import (
	"slices"
	"testing"
	"time"

	"falsework/api"
	"falsework/calendar"
	"falsework/civil"
	"falsework/mixer"
)

// Here every call is held against package time, or against the promise's own words, taken one number at a time.

func modelTime(d api.Date) time.Time {
	return time.Date(d.Year, time.Month(d.Month), d.Day, 0, 0, 0, 0, time.UTC)
}

func modelDate(at time.Time) api.Date {
	return date(at.Year(), int(at.Month()), at.Day())
}

// atDay: the time at a number.
func atDay(n int64) time.Time {
	return time.Date(1900, 1, 1+int(n), 0, 0, 0, 0, time.UTC)
}

func isDate(n int64) bool {
	return n >= 0 && n < count
}

// modelMonths leans on package time for the month's first day: the day itself it would move into the next month, where there are fewer.
func modelMonths(d api.Date, n int) (api.Date, api.Errno) {
	first := modelTime(date(d.Year, d.Month+n, 1))
	last := first.AddDate(0, 1, -1)
	if first.Year() < 1900 || first.Year() > 2299 || n < -4800 || n > 4800 {
		return api.Date{}, api.ErrDate
	}
	isLast := modelTime(d).AddDate(0, 0, 1).Day() == 1
	same := first.AddDate(0, 0, d.Day-1)
	if isLast || same.After(last) {
		return modelDate(last), api.OK
	}
	return modelDate(same), api.OK
}

// P4.1: all days of some years, by some numbers of months.
func TestMonthsByModel(t *testing.T) {
	for _, year := range []int{1900, 1901, 1904, 1999, 2000, 2001, 2023, 2024, 2100, 2296, 2299} {
		for day := modelTime(date(year, 1, 1)); day.Year() == year; day = day.AddDate(0, 0, 1) {
			for _, n := range []int{0, 1, 2, 3, 6, 11, 12, 13, 24, 48, 1200, 4799, 4800, 4801} {
				checkMonthsByModel(t, modelDate(day), n)
				checkMonthsByModel(t, modelDate(day), -n)
			}
		}
	}
	m := mixer.Mixer(41)
	for range 50000 {
		d := modelDate(atDay(int64(m.Next() % count)))
		checkMonthsByModel(t, d, int(m.Next()%9800)-4900)
	}
}

func checkMonthsByModel(t *testing.T, d api.Date, n int) {
	t.Helper()
	want, wantErr := modelMonths(d, n)
	checkMonths(t, d, n, want, wantErr)
}

// modelThirty is the promise's words, one by one.
func modelThirty(from, to api.Date) int64 {
	first, last := from.Day, to.Day
	if first == 31 {
		first = 30
	}
	if last == 31 && first >= 30 {
		last = 30
	}
	return int64(360*(to.Year-from.Year) + 30*(to.Month-from.Month) + (last - first))
}

// P4.2
func TestCountsByModel(t *testing.T) {
	m := mixer.Mixer(42)
	for range 100000 {
		one := int64(m.Next() % count)
		other := int64(m.Next() % count)
		if m.Next()%2 == 0 {
			other = min(count-1, one+int64(m.Next()%70))
		}
		from, to := modelDate(atDay(one)), modelDate(atDay(other))
		checkActual(t, from, to, other-one, api.OK)
		checkThirty(t, from, to, modelThirty(from, to), api.OK)
		checkActual(t, to, from, one-other, api.OK)
		checkThirty(t, to, from, modelThirty(to, from), api.OK)
	}
}

// modelBusiness asks the list itself.
func modelBusiness(holidays []int64, n int64) bool {
	return civil.Weekday(n) < 5 && !slices.Contains(holidays, n)
}

// modelNearest: of 32 numbers, all those that are dates' and business days; the first of them.
func modelNearest(holidays []int64, n, step int64) (int64, api.Errno) {
	if !isDate(n) {
		return 0, api.ErrRoll
	}
	var found []int64
	for i := range int64(32) {
		if at := n + i*step; isDate(at) && modelBusiness(holidays, at) {
			found = append(found, at)
		}
	}
	if len(found) == 0 {
		return 0, api.ErrRoll
	}
	return found[0], api.OK
}

func modelModified(holidays []int64, n int64) (int64, api.Errno) {
	if !isDate(n) {
		return 0, api.ErrRoll
	}
	next, err := modelNearest(holidays, n, 1)
	if err == api.OK && atDay(next).Format("2006-01") == atDay(n).Format("2006-01") {
		return next, api.OK
	}
	return modelNearest(holidays, n, -1)
}

func checkDaysByModel(t *testing.T, d *calendar.Days, holidays []int64, n int64) {
	t.Helper()
	checkBusiness(t, d, n, modelBusiness(holidays, n))
	want, wantErr := modelNearest(holidays, n, 1)
	checkRoll(t, d, n, want, wantErr)
	want, wantErr = modelNearest(holidays, n, -1)
	checkBack(t, d, n, want, wantErr)
	want, wantErr = modelModified(holidays, n)
	checkModified(t, d, n, want, wantErr)
}

// manyHolidays: so many of a stretch's numbers, in any order, some twice.
func manyHolidays(m *mixer.Mixer, from int64, wide, many uint64) []int64 {
	var out []int64
	for range many {
		out = append(out, from+int64(m.Next()%wide))
	}
	return out
}

// P4.3: stretches, some at the calendar's ends, so thick with holidays that at times nothing is near.
func TestDaysByModel(t *testing.T) {
	m := mixer.Mixer(43)
	for round := range 300 {
		wide := 1 + m.Next()%200
		from := []int64{-40, int64(m.Next() % count), count - int64(wide)}[round%3]
		holidays := manyHolidays(&m, from, wide, m.Next()%513)
		d := days(t, holidays...)
		for n := from - 40; n < from+int64(wide)+40; n++ {
			checkDaysByModel(t, d, holidays, n)
		}
		to := from + int64(m.Next()%wide)
		checkBetweenByModel(t, d, holidays, from-int64(m.Next()%40), to)
	}
}

func checkBetweenByModel(t *testing.T, d *calendar.Days, holidays []int64, from, to int64) {
	t.Helper()
	want := 0
	for n := from; n < to; n++ {
		if modelBusiness(holidays, n) {
			want++
		}
	}
	checkBetween(t, d, from, to, want)
}

// P4.3: numbers of all sizes.
func TestNumbersOfAllSizes(t *testing.T) {
	m := mixer.Mixer(44)
	for range 2000 {
		holidays := []int64{m.AnySize(), m.AnySize(), m.AnySize()}
		d := days(t, holidays...)
		for _, n := range append(holidays, m.AnySize()) {
			checkDaysByModel(t, d, holidays, n)
		}
		from, to := m.AnySize(), m.AnySize()
		if from < to && (to-from < 0 || to-from > 100000) {
			checkBetween(t, d, from, to, 0)
		} else {
			checkBetweenByModel(t, d, holidays, from, to)
		}
	}
}
