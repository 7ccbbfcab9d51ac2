/-
  Which type an operand is of: by its value.
-/
import Derived.Test.YtokaljglaholnaaRows
import Derived.WalkKit
namespace Go.Proofs.Ytokaljglaholnaa
open Go.RowKit

theorem ta_blockType_blockType (v : Value) (w : World) : (Instr.typeAssert (.iface 105 v) 114 105 true).run Try.prog w = .ok (.tuple #[v, .bool true]) w := by kernel_rfl
theorem ta_blockType_upTo (v : Value) (w : World) : (Instr.typeAssert (.iface 105 v) 114 133 true).run Try.prog w = .ok (.tuple #[.int .i64 0, .bool false]) w := by kernel_rfl
theorem ta_blockType_signedBits (v : Value) (w : World) : (Instr.typeAssert (.iface 105 v) 114 134 true).run Try.prog w = .ok (.tuple #[.int .i64 0, .bool false]) w := by kernel_rfl
theorem ta_blockType_floatBits (v : Value) (w : World) : (Instr.typeAssert (.iface 105 v) 114 135 true).run Try.prog w = .ok (.tuple #[.agg #[], .bool false]) w := by kernel_rfl
theorem ta_blockType_noOperand (v : Value) (w : World) : (Instr.typeAssert (.iface 105 v) 114 136 true).run Try.prog w = .ok (.tuple #[.agg #[], .bool false]) w := by kernel_rfl
theorem ta_upTo_blockType (v : Value) (w : World) : (Instr.typeAssert (.iface 133 v) 114 105 true).run Try.prog w = .ok (.tuple #[.agg #[], .bool false]) w := by kernel_rfl
theorem ta_upTo_upTo (v : Value) (w : World) : (Instr.typeAssert (.iface 133 v) 114 133 true).run Try.prog w = .ok (.tuple #[v, .bool true]) w := by kernel_rfl
theorem ta_upTo_signedBits (v : Value) (w : World) : (Instr.typeAssert (.iface 133 v) 114 134 true).run Try.prog w = .ok (.tuple #[.int .i64 0, .bool false]) w := by kernel_rfl
theorem ta_upTo_floatBits (v : Value) (w : World) : (Instr.typeAssert (.iface 133 v) 114 135 true).run Try.prog w = .ok (.tuple #[.agg #[], .bool false]) w := by kernel_rfl
theorem ta_upTo_noOperand (v : Value) (w : World) : (Instr.typeAssert (.iface 133 v) 114 136 true).run Try.prog w = .ok (.tuple #[.agg #[], .bool false]) w := by kernel_rfl
theorem ta_signedBits_blockType (v : Value) (w : World) : (Instr.typeAssert (.iface 134 v) 114 105 true).run Try.prog w = .ok (.tuple #[.agg #[], .bool false]) w := by kernel_rfl
theorem ta_signedBits_upTo (v : Value) (w : World) : (Instr.typeAssert (.iface 134 v) 114 133 true).run Try.prog w = .ok (.tuple #[.int .i64 0, .bool false]) w := by kernel_rfl
theorem ta_signedBits_signedBits (v : Value) (w : World) : (Instr.typeAssert (.iface 134 v) 114 134 true).run Try.prog w = .ok (.tuple #[v, .bool true]) w := by kernel_rfl
theorem ta_signedBits_floatBits (v : Value) (w : World) : (Instr.typeAssert (.iface 134 v) 114 135 true).run Try.prog w = .ok (.tuple #[.agg #[], .bool false]) w := by kernel_rfl
theorem ta_signedBits_noOperand (v : Value) (w : World) : (Instr.typeAssert (.iface 134 v) 114 136 true).run Try.prog w = .ok (.tuple #[.agg #[], .bool false]) w := by kernel_rfl
theorem ta_floatBits_blockType (v : Value) (w : World) : (Instr.typeAssert (.iface 135 v) 114 105 true).run Try.prog w = .ok (.tuple #[.agg #[], .bool false]) w := by kernel_rfl
theorem ta_floatBits_upTo (v : Value) (w : World) : (Instr.typeAssert (.iface 135 v) 114 133 true).run Try.prog w = .ok (.tuple #[.int .i64 0, .bool false]) w := by kernel_rfl
theorem ta_floatBits_signedBits (v : Value) (w : World) : (Instr.typeAssert (.iface 135 v) 114 134 true).run Try.prog w = .ok (.tuple #[.int .i64 0, .bool false]) w := by kernel_rfl
theorem ta_floatBits_floatBits (v : Value) (w : World) : (Instr.typeAssert (.iface 135 v) 114 135 true).run Try.prog w = .ok (.tuple #[v, .bool true]) w := by kernel_rfl
theorem ta_floatBits_noOperand (v : Value) (w : World) : (Instr.typeAssert (.iface 135 v) 114 136 true).run Try.prog w = .ok (.tuple #[.agg #[], .bool false]) w := by kernel_rfl
theorem ta_noOperand_blockType (v : Value) (w : World) : (Instr.typeAssert (.iface 136 v) 114 105 true).run Try.prog w = .ok (.tuple #[.agg #[], .bool false]) w := by kernel_rfl
theorem ta_noOperand_upTo (v : Value) (w : World) : (Instr.typeAssert (.iface 136 v) 114 133 true).run Try.prog w = .ok (.tuple #[.int .i64 0, .bool false]) w := by kernel_rfl
theorem ta_noOperand_signedBits (v : Value) (w : World) : (Instr.typeAssert (.iface 136 v) 114 134 true).run Try.prog w = .ok (.tuple #[.int .i64 0, .bool false]) w := by kernel_rfl
theorem ta_noOperand_floatBits (v : Value) (w : World) : (Instr.typeAssert (.iface 136 v) 114 135 true).run Try.prog w = .ok (.tuple #[.agg #[], .bool false]) w := by kernel_rfl
theorem ta_noOperand_noOperand (v : Value) (w : World) : (Instr.typeAssert (.iface 136 v) 114 136 true).run Try.prog w = .ok (.tuple #[v, .bool true]) w := by kernel_rfl
theorem ta_nil_blockType (w : World) : (Instr.typeAssert .nilIface 114 105 true).run Try.prog w = .ok (.tuple #[.agg #[], .bool false]) w := by kernel_rfl
theorem ta_nil_upTo (w : World) : (Instr.typeAssert .nilIface 114 133 true).run Try.prog w = .ok (.tuple #[.int .i64 0, .bool false]) w := by kernel_rfl
theorem ta_nil_signedBits (w : World) : (Instr.typeAssert .nilIface 114 134 true).run Try.prog w = .ok (.tuple #[.int .i64 0, .bool false]) w := by kernel_rfl
theorem ta_nil_floatBits (w : World) : (Instr.typeAssert .nilIface 114 135 true).run Try.prog w = .ok (.tuple #[.agg #[], .bool false]) w := by kernel_rfl
theorem ta_nil_noOperand (w : World) : (Instr.typeAssert .nilIface 114 136 true).run Try.prog w = .ok (.tuple #[.agg #[], .bool false]) w := by kernel_rfl

end Go.Proofs.Ytokaljglaholnaa
