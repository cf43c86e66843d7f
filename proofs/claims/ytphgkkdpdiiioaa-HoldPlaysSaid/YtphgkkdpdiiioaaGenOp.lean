/- Gen and GenOpC together. -/
import Derived.Test.YtphgkkdpdiiioaaGenOpC
import Derived.Test.YtphgkkdpdiiioaaGen
