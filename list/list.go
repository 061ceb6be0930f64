// Package list has lists of numbers that several layers make.
package list

// Rising: the numbers from 0 to n - 1.
func Rising(n int) []int {
	out := make([]int, 0, max(0, n))
	for i := range n {
		out = append(out, i)
	}
	return out
}
