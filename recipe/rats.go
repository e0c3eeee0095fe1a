package recipe

import (
	"slices"

	"canting/api"
	"canting/exact"
)

func isBetween(n, low, high int) bool {
	return low <= n && n <= high
}

// haveSize reports whether each list has n elements.
func haveSize(n int, lists ...[]api.Rat) bool {
	return !slices.ContainsFunc(lists, func(l []api.Rat) bool { return len(l) != n })
}

// areAll reports whether all elements of all lists meet a condition.
func areAll(condition func(f api.Rat) bool, lists ...[]api.Rat) bool {
	for _, l := range lists {
		for _, f := range l {
			if !condition(f) {
				return false
			}
		}
	}
	return true
}

// isSmall reports whether f is a small Rat.
func isSmall(f api.Rat) bool {
	short := func(a api.Int) bool {
		n, e := exact.Bits(a)
		return e == api.OK && n <= smallBits
	}
	return short(f.Num) && short(f.Den) && exact.ValidRat(f)
}

// number returns the Rat of an int. Each one has memory of its own, as the elements of a result must.
func number(n int) api.Rat {
	return api.Rat{Num: exact.FromInt(n), Den: exact.FromInt(1)}
}

// numbers returns so many Rats of an int.
func numbers(count, n int) []api.Rat {
	var out []api.Rat
	for range count {
		out = append(out, number(n))
	}
	return out
}

func sign(f api.Rat) int {
	if f.Num.Neg {
		return -1
	}
	return min(len(f.Num.Words), 1)
}

func isNegative(f api.Rat) bool {
	return sign(f) < 0
}

// compare needs valid Rats.
func compare(f, g api.Rat) int {
	order, _ := exact.RatCmp(f, g)
	return order
}

// dot returns the sum of the products of elements. It is representable: there are at most 8 products, the one factor is small, and the other has at most 24 words in each part.
func dot(small, l []api.Rat) api.Rat {
	sum := number(0)
	for i := range l {
		product, _ := exact.RatMul(small[i], l[i])
		sum, _ = exact.RatAdd(sum, product)
	}
	return sum
}

// opposites returns each element with the other sign.
func opposites(l []api.Rat) []api.Rat {
	var out []api.Rat
	for _, f := range l {
		opposite, _ := exact.RatSub(number(0), f)
		out = append(out, opposite)
	}
	return out
}

// transposed returns the columns of a matrix that has a row.
func transposed(rows [][]api.Rat) [][]api.Rat {
	var columns [][]api.Rat
	for j := range rows[0] {
		var column []api.Rat
		for _, row := range rows {
			column = append(column, row[j])
		}
		columns = append(columns, column)
	}
	return columns
}
