// Package errno chooses among errors that apply to one call.
package errno

import "facet/api"

// Least answers the error with the least number, or OK where none of them is an error.
func Least(list ...api.Errno) api.Errno {
	least := api.OK
	for _, e := range list {
		if least == api.OK || e != api.OK && e < least {
			least = e
		}
	}
	return least
}
