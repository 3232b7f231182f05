// Package query: what is asked: see doc/04-query.md.
package query

import "prune/api"

// Parse tells a query's paths (Q1, Q2).
func Parse(q string) ([][]api.Step, api.Errno, int) { return nil, api.OK, 0 }

// Print writes a query in its plain form (Q3).
func Print(q string) (string, api.Errno, int) { return "", api.OK, 0 }
