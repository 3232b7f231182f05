// Package tree: documents as trees: see doc/03-tree.md.
package tree

import "prune/api"

// Parse tells a document's nodes (R1, R2).
func Parse(s string) ([]api.Node, api.Errno, int) { return nil, api.OK, 0 }

// Print tells a document's plain form (R3).
func Print(s string) (string, api.Errno, int) { return "", api.OK, 0 }

// Sub tells a node's plain form (R3).
func Sub(s string, k int) (string, api.Errno, int) { return "", api.OK, 0 }

// Value tells a node's value (R3).
func Value(s string, k int) (string, api.Errno, int) { return "", api.OK, 0 }
