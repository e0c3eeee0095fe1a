package bath

// keeper keeps the results of a rule for the numbers below a bound, so that each is found only once.
type keeper[T any] struct {
	rule  func(of func(number int) T, number int) T
	known []bool
	kept  []T
}

// keep makes a keeper for the numbers below n. The rule is given the results for other numbers; none of them may need its own number.
func keep[T any](n int, rule func(of func(number int) T, number int) T) *keeper[T] {
	return &keeper[T]{rule, make([]bool, n), make([]T, n)}
}

// of returns the result for a number.
func (k *keeper[T]) of(number int) T {
	if !k.known[number] {
		result := k.rule(k.of, number)
		k.kept[number] = result
		k.known[number] = true
	}
	return k.kept[number]
}
