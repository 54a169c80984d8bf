package span

import (
	"weir/api"
	"weir/fault"
)

const (
	lastYear = 9999
	// zeroth is how many days the beginning of the year 0 lies ahead of 1970.
	zeroth = 719528
	// In 400 years the calendar comes back to where it began.
	roundYears = 400
	roundDays  = 146097
	february   = 2
)

// months are the days of each month, in a year of 365.
var months = [12]int{31, 28, 31, 30, 31, 30, 31, 31, 30, 31, 30, 31}

// Day is the number of a day since 1970.
func Day(year, month, day int) (int, error) {
	if year < 0 || year > lastYear || month < 1 || month > len(months) || day < 1 || day > length(year, month) {
		return 0, fault.New(api.ErrTime)
	}
	n := began(year) + day - 1
	for m := 1; m < month; m++ {
		n += length(year, m)
	}
	return n, nil
}

// Date is the day of a number.
func Date(n int) (int, int, int) {
	if n < began(0) || n >= began(lastYear+1) {
		return 0, 0, 0
	}
	// As if all years were of one length: that is some days off, and so one year at most.
	year := (n - began(0)) * roundYears / roundDays
	if n < began(year) {
		year--
	} else if n >= began(year+1) {
		year++
	}
	month, day := 1, n-began(year)+1
	for ; day > length(year, month); month++ {
		day -= length(year, month)
	}
	return year, month, day
}

// began is the number of the first day of a year, from the year 0 on.
func began(year int) int {
	leaps := (year+3)/4 - (year+99)/100 + (year+399)/400
	return 365*year + leaps - zeroth
}

// length is how many days a month has.
func length(year, month int) int {
	if month == february && year%4 == 0 && (year%100 != 0 || year%400 == 0) {
		return 29
	}
	return months[month-1]
}
