// Package bounds: which numbers are nodes, heights, rounds and values, for all layers alike (DOC.md, 'What holds everywhere').
package bounds

import "yokefellow/api"

// Node is whether a number is a node.
func Node(n int) bool { return Within(n, 0, api.Nodes-1) }

// Height is whether a number is a height.
func Height(n int) bool { return Within(n, 0, api.Heights-1) }

// Round is whether a number is a round.
func Round(n int) bool { return Within(n, 0, api.Rounds-1) }

// Value is whether a number is a value; 0 is none.
func Value(n int) bool { return Within(n, 1, api.Values) }

// Within is whether a number is from least to most.
func Within(n, least, most int) bool { return least <= n && n <= most }
