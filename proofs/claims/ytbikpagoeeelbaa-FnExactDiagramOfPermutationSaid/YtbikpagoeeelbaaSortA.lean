/- Lists that are copied, exchanged and reversed (joined). -/
import Derived.Test.YtbikpagoeeelbaaLst
import Derived.Test.YtbikpagoeeelbaaSort
