/- What TrailBack looks at, of each literal: in whatever order the parts come up. -/
import Derived.Test.YtckpahdlcdgbpaaPu
import Derived.Deep.RegionHeld3
namespace Go.Proofs.Ytckpahdlcdgbpaa
open Go.RowKit Go.Maps
set_option linter.unusedVariables false
set_option linter.unusedSimpArgs false

set_option maxRecDepth 100000 in
set_option maxHeartbeats 20000000 in
theorem reg33 {Q : Exit → Act → World → Prop} {X : World} {ds : List Deferred} (S0 : World → Prop) (tb ga gg M caa G kg j jr : Nat) (L vL : Int)
    (h0 : S0 X.drew) (hjG : (j : Int) < G) (hM : M ≤ 1048576) (hjr : (M : Int) - 1 - (j : Nat) = (jr : Nat)) (hjrM : (jr : Int) < M)
    (HC : ∀ Y, S0 Y → Y.cell? ⟨gg, j, none⟩ = some (.int .i32 L))
    (HP : ∀ Y, S0 Y → Y.cell? ⟨ga, jr, none⟩ = some (.int .i32 L))
    (D24 : ∀ Y, S0 Y → Calls Try.prog 24 #[.pointer (some ⟨tb, 0, none⟩), .int .i32 L] Y fun e w' => e = .returned (.int .i64 0) ∧ S0 w')
    (D16 : ∀ Y, Calls Try.prog 16 #[.int .i32 L] Y fun e w' => e = .returned (.int .i64 vL) ∧ w' = Y)
    (D25 : ∀ Y, S0 Y → Calls Try.prog 25 #[.pointer (some ⟨tb, 0, none⟩), .int .i64 vL] Y fun e w' => e = .returned (.int .i64 (-1)) ∧ S0 w')
    (t0 t1 t2 t3 t4 t5 t6 t8 t9 t10 t11 t12 t13 t14 t16 t17 t19 t21 t22 t23 t24 t25 t26 t27 t28 t29 t30 t31 t32 t33 t34 t35 t36 t37 t38 t39 t40 t41 t42 t43 t44 t45 t46 t47 t48 t49 t50 t51 t52 t53 t54 t55 t56 t57 t58 t59 t60 t61 t62 t63 t64 t65 t66 t67 t68 t69 t70 t71 t72 t73 t74 t75 t76 t77 t78 t79 t80 t81 t82 t83 t84 t85 t86 t87 t88 t89 t90 t91 t92 t93 t94 t95 t96 t97 t98 t99 t100 t101 t102 t103 t104 t105 t106 t107 t108 t109 t110 t111 t112 t113 t114 t115 t116 t117 t118 t119 t120 t121 t122 t123 t124 t125 t126 t127 t128 t129 t130 t131 t132 t133 t134 t135 t136 t137 t138 t139 t140 t141 t142 t143 t144 t145 t146 t147 t148 t149 t150 t151 t152 t153 t154 t155 t156 t157 t158 t159 t160 t161 t162 t163 t164 t165 t166 t167 t168 t169 t170 t171 t172 t173 t174 t175 t176 t177 t178 t179 t180 t181 t182 t183 t184 t185 t186 t187 t188 t189 t190 t191 t192 t193 t194 t195 t196 t197 t198 t199 t200 t201 t202 t203 t204 : Value)
    (hQ : ∀ (u172 u173 u174 u175 u176 u177 u178 u179 u180 u181 u182 u183 u184 u185 u186 u187 u188 u189 u190 u191 u192 u193 u194 u195 u196 u197 u198 u199 u200 u201 u202 : Value) (w' : World), S0 w' → Q .normal { tmps := #[t0, t1, t2, t3, t4, t5, t6, Value.pointer (some ⟨tb, 0, none⟩), t8, t9, t10, t11, t12, t13, t14, Value.slice (some ⟨ga, 0, none⟩) M caa, t16, t17, Value.slice (some ⟨gg, 0, none⟩) G kg, t19, Value.int IntKind.i64 (j : Nat), t21, t22, t23, t24, t25, t26, t27, t28, t29, t30, t31, t32, t33, t34, t35, t36, t37, t38, t39, t40, t41, t42, t43, t44, t45, t46, t47, t48, t49, t50, t51, t52, t53, t54, t55, t56, t57, t58, t59, t60, t61, t62, t63, t64, t65, t66, t67, t68, t69, t70, t71, t72, t73, t74, t75, t76, t77, t78, t79, t80, t81, t82, t83, t84, t85, t86, t87, t88, t89, t90, t91, t92, t93, t94, t95, t96, t97, t98, t99, t100, t101, t102, t103, t104, t105, t106, t107, t108, t109, t110, t111, t112, t113, t114, t115, t116, t117, t118, t119, t120, t121, t122, t123, t124, t125, t126, t127, t128, t129, t130, t131, t132, t133, t134, t135, t136, t137, t138, t139, t140, t141, t142, t143, t144, t145, t146, t147, t148, t149, t150, t151, t152, t153, t154, t155, t156, t157, t158, t159, t160, t161, t162, t163, t164, t165, t166, t167, t168, t169, t170, t171, u172, u173, u174, u175, u176, u177, u178, u179, u180, u181, u182, u183, u184, u185, u186, u187, u188, u189, u190, u191, u192, u193, u194, u195, u196, u197, u198, u199, u200, u201, u202, Value.bool false, t204], defers := ds } w') :
    Code.wp Try.prog (Code.region 33 #[{ dst := some 172, op := Op.move (Operand.tmp 18), type := 40, pos := "law.go:134", after := #[], guard := none }, { dst := some 173, op := Op.move (Operand.tmp 20), type := 3, pos := "law.go:134", after := #[], guard := none }, { dst := some 174, op := Op.indexAddr 40 (Operand.tmp 172) (Operand.tmp 173), type := 0, pos := "law.go:134", after := #[{ on := 0, ground := Ground.data }, { on := 1, ground := Ground.data }], guard := none }, { dst := some 175, op := Op.load 33 (Operand.tmp 174), type := 33, pos := "law.go:134", after := #[{ on := 2, ground := Ground.data }], guard := none }, { dst := some 176, op := Op.move (Operand.tmp 15), type := 40, pos := "law.go:134", after := #[], guard := none }, { dst := some 177, op := Op.move (Operand.tmp 15), type := 40, pos := "law.go:134", after := #[], guard := none }, { dst := some 178, op := Op.call { callee := Callee.builtin Builtin.len, args := #[Operand.tmp 177], argTypes := #[40] }, type := 3, pos := "law.go:134", after := #[{ on := 5, ground := Ground.data }], guard := none }, { dst := some 179, op := Op.binOp BinOp.sub 3 (Operand.tmp 178) (Operand.const (Value.int IntKind.i64 1)) 3, type := 3, pos := "law.go:134", after := #[{ on := 6, ground := Ground.data }], guard := none }, { dst := some 180, op := Op.move (Operand.tmp 20), type := 3, pos := "law.go:134", after := #[], guard := none }, { dst := some 181, op := Op.binOp BinOp.sub 3 (Operand.tmp 179) (Operand.tmp 180) 3, type := 3, pos := "law.go:134", after := #[{ on := 7, ground := Ground.data }, { on := 8, ground := Ground.data }], guard := none }, { dst := some 182, op := Op.indexAddr 40 (Operand.tmp 176) (Operand.tmp 181), type := 0, pos := "law.go:134", after := #[{ on := 4, ground := Ground.data }, { on := 9, ground := Ground.data }], guard := none }, { dst := some 183, op := Op.load 33 (Operand.tmp 182), type := 33, pos := "law.go:134", after := #[{ on := 10, ground := Ground.data }], guard := none }, { dst := some 184, op := Op.binOp BinOp.neq 33 (Operand.tmp 175) (Operand.tmp 183) 33, type := 4, pos := "law.go:134", after := #[{ on := 3, ground := Ground.data }, { on := 11, ground := Ground.data }], guard := none }, { dst := some 185, op := Op.move (Operand.tmp 184), type := 4, pos := "law.go:134", after := #[{ on := 12, ground := Ground.data }], guard := none }, { dst := some 186, op := Op.move (Operand.tmp 7), type := 24, pos := "law.go:134", after := #[{ on := 13, ground := Ground.guard }], guard := some (13, false) }, { dst := some 187, op := Op.move (Operand.tmp 18), type := 40, pos := "law.go:134", after := #[{ on := 13, ground := Ground.guard }], guard := some (13, false) }, { dst := some 188, op := Op.move (Operand.tmp 20), type := 3, pos := "law.go:134", after := #[{ on := 13, ground := Ground.guard }], guard := some (13, false) }, { dst := some 189, op := Op.indexAddr 40 (Operand.tmp 187) (Operand.tmp 188), type := 0, pos := "law.go:134", after := #[{ on := 15, ground := Ground.data }, { on := 16, ground := Ground.data }, { on := 13, ground := Ground.guard }], guard := some (13, false) }, { dst := some 190, op := Op.load 33 (Operand.tmp 189), type := 33, pos := "law.go:134", after := #[{ on := 17, ground := Ground.data }, { on := 13, ground := Ground.guard }], guard := some (13, false) }, { dst := some 191, op := Op.call { callee := Callee.value (Operand.func 24), args := #[Operand.tmp 186, Operand.tmp 190], argTypes := #[24, 33] }, type := 3, pos := "law.go:134", after := #[{ on := 14, ground := Ground.data }, { on := 18, ground := Ground.data }, { on := 13, ground := Ground.chain }, { on := 13, ground := Ground.guard }], guard := some (13, false) }, { dst := some 192, op := Op.binOp BinOp.neq 3 (Operand.tmp 191) (Operand.const (Value.int IntKind.i64 0)) 3, type := 4, pos := "law.go:134", after := #[{ on := 19, ground := Ground.data }, { on := 13, ground := Ground.guard }], guard := some (13, false) }, { dst := some 193, op := Op.pick (Operand.tmp 185) (Operand.const (Value.bool true)) (Operand.tmp 192), type := 4, pos := "law.go:134", after := #[{ on := 13, ground := Ground.data }, { on := 20, ground := Ground.data }], guard := none }, { dst := some 194, op := Op.move (Operand.tmp 193), type := 4, pos := "law.go:134", after := #[{ on := 21, ground := Ground.data }, { on := 19, ground := Ground.chain }], guard := none }, { dst := some 195, op := Op.move (Operand.tmp 7), type := 24, pos := "law.go:134", after := #[{ on := 22, ground := Ground.guard }], guard := some (22, false) }, { dst := some 196, op := Op.move (Operand.tmp 18), type := 40, pos := "law.go:134", after := #[{ on := 22, ground := Ground.guard }], guard := some (22, false) }, { dst := some 197, op := Op.move (Operand.tmp 20), type := 3, pos := "law.go:134", after := #[{ on := 22, ground := Ground.guard }], guard := some (22, false) }, { dst := some 198, op := Op.indexAddr 40 (Operand.tmp 196) (Operand.tmp 197), type := 0, pos := "law.go:134", after := #[{ on := 24, ground := Ground.data }, { on := 25, ground := Ground.data }, { on := 22, ground := Ground.guard }], guard := some (22, false) }, { dst := some 199, op := Op.load 33 (Operand.tmp 198), type := 33, pos := "law.go:134", after := #[{ on := 26, ground := Ground.data }, { on := 22, ground := Ground.guard }], guard := some (22, false) }, { dst := some 200, op := Op.call { callee := Callee.value (Operand.func 16), args := #[Operand.tmp 199], argTypes := #[33] }, type := 3, pos := "law.go:134", after := #[{ on := 27, ground := Ground.data }, { on := 22, ground := Ground.chain }, { on := 22, ground := Ground.guard }], guard := some (22, false) }, { dst := some 201, op := Op.call { callee := Callee.value (Operand.func 25), args := #[Operand.tmp 195, Operand.tmp 200], argTypes := #[24, 3] }, type := 3, pos := "law.go:134", after := #[{ on := 23, ground := Ground.data }, { on := 28, ground := Ground.data }, { on := 28, ground := Ground.chain }, { on := 22, ground := Ground.guard }], guard := some (22, false) }, { dst := some 202, op := Op.binOp BinOp.neq 3 (Operand.tmp 201) (Operand.const (Value.int IntKind.i64 (-1))) 3, type := 4, pos := "law.go:134", after := #[{ on := 29, ground := Ground.data }, { on := 22, ground := Ground.guard }], guard := some (22, false) }, { dst := some 203, op := Op.pick (Operand.tmp 194) (Operand.const (Value.bool true)) (Operand.tmp 202), type := 4, pos := "law.go:134", after := #[{ on := 22, ground := Ground.data }, { on := 30, ground := Ground.data }], guard := none }] true) Q { tmps := #[t0, t1, t2, t3, t4, t5, t6, Value.pointer (some ⟨tb, 0, none⟩), t8, t9, t10, t11, t12, t13, t14, Value.slice (some ⟨ga, 0, none⟩) M caa, t16, t17, Value.slice (some ⟨gg, 0, none⟩) G kg, t19, Value.int IntKind.i64 (j : Nat), t21, t22, t23, t24, t25, t26, t27, t28, t29, t30, t31, t32, t33, t34, t35, t36, t37, t38, t39, t40, t41, t42, t43, t44, t45, t46, t47, t48, t49, t50, t51, t52, t53, t54, t55, t56, t57, t58, t59, t60, t61, t62, t63, t64, t65, t66, t67, t68, t69, t70, t71, t72, t73, t74, t75, t76, t77, t78, t79, t80, t81, t82, t83, t84, t85, t86, t87, t88, t89, t90, t91, t92, t93, t94, t95, t96, t97, t98, t99, t100, t101, t102, t103, t104, t105, t106, t107, t108, t109, t110, t111, t112, t113, t114, t115, t116, t117, t118, t119, t120, t121, t122, t123, t124, t125, t126, t127, t128, t129, t130, t131, t132, t133, t134, t135, t136, t137, t138, t139, t140, t141, t142, t143, t144, t145, t146, t147, t148, t149, t150, t151, t152, t153, t154, t155, t156, t157, t158, t159, t160, t161, t162, t163, t164, t165, t166, t167, t168, t169, t170, t171, t172, t173, t174, t175, t176, t177, t178, t179, t180, t181, t182, t183, t184, t185, t186, t187, t188, t189, t190, t191, t192, t193, t194, t195, t196, t197, t198, t199, t200, t201, t202, t203, t204], defers := ds } X := by
  have HQ := hid hQ
  clear hQ
  have hwa : IntKind.i64.wrap ((M : Int) - 1) = (M : Int) - 1 := by rw [IntKind.wrap_i64]; omega
  have hwb : IntKind.i64.wrap (jr : Int) = (jr : Int) := by rw [IntKind.wrap_i64]; omega
  have HHC := hid HC
  have HHP := hid HP
  have H24 := hid D24
  have H16 := hid D16
  have H25 := hid D25
  clear HC HP D24 D16 D25
  refine wp_region_noPanic ?_
  refine wp_region_held_drew (S := (fun Y : World => Y.cell? ⟨gg, j, none⟩ = some (.int .i32 L) ∧ Y.cell? ⟨ga, jr, none⟩ = some (.int .i32 L) ∧ S0 Y)) (by kernel_rfl) ?_ (fun hHeld => ?_)
  · exact ⟨HHC.out _ h0, HHP.out _ h0, h0⟩
  dsimp only
  refine wpAnyH_take (i := 0) (oi := { dst := some 172, op := Op.move (Operand.tmp 18), type := 40, pos := "law.go:134", after := #[], guard := none }) (v := ?_) rfl (by kernel_rfl) (by kernel_rfl) (by kernel_rfl) (fun _ _ _ h => h) (Or.inl ⟨by kernel_rfl, ?_⟩) (by assumption) ?_
  rotate_left
  · (intro w hSw; (try dsimp only at hSw); go_simp) <;> with_reducible rfl
  try simp only [Act.put, List.setIfInBounds_toArray, List.set_cons_zero, List.set_cons_succ]
  refine wpAnyH_take (i := 1) (oi := { dst := some 173, op := Op.move (Operand.tmp 20), type := 3, pos := "law.go:134", after := #[], guard := none }) (v := ?_) rfl (by kernel_rfl) (by kernel_rfl) (by kernel_rfl) (fun _ _ _ h => h) (Or.inl ⟨by kernel_rfl, ?_⟩) (by assumption) ?_
  rotate_left
  · (intro w hSw; (try dsimp only at hSw); go_simp) <;> with_reducible rfl
  try simp only [Act.put, List.setIfInBounds_toArray, List.set_cons_zero, List.set_cons_succ]
  refine wpAnyH_take (i := 2) (oi := { dst := some 174, op := Op.indexAddr 40 (Operand.tmp 172) (Operand.tmp 173), type := 0, pos := "law.go:134", after := #[{ on := 0, ground := Ground.data }, { on := 1, ground := Ground.data }], guard := none }) (v := ?_) rfl (by kernel_rfl) (by kernel_rfl) (by kernel_rfl) (fun _ _ _ h => h) (Or.inl ⟨by kernel_rfl, ?_⟩) (by assumption) ?_
  rotate_left
  · (intro w hSw; (try dsimp only at hSw); go_simp) <;> with_reducible rfl
  try simp only [Act.put, List.setIfInBounds_toArray, List.set_cons_zero, List.set_cons_succ]
  refine wpAnyH_take (i := 3) (oi := { dst := some 175, op := Op.load 33 (Operand.tmp 174), type := 33, pos := "law.go:134", after := #[{ on := 2, ground := Ground.data }], guard := none }) (v := ?_) rfl (by kernel_rfl) (by kernel_rfl) (by kernel_rfl) (fun _ _ _ h => h) (Or.inl ⟨by kernel_rfl, ?_⟩) (by assumption) ?_
  rotate_left
  · (intro w hSw; (try dsimp only at hSw); go_simp) <;> with_reducible rfl
  try simp only [Act.put, List.setIfInBounds_toArray, List.set_cons_zero, List.set_cons_succ]
  refine wpAnyH_take (i := 4) (oi := { dst := some 176, op := Op.move (Operand.tmp 15), type := 40, pos := "law.go:134", after := #[], guard := none }) (v := ?_) rfl (by kernel_rfl) (by kernel_rfl) (by kernel_rfl) (fun _ _ _ h => h) (Or.inl ⟨by kernel_rfl, ?_⟩) (by assumption) ?_
  rotate_left
  · (intro w hSw; (try dsimp only at hSw); go_simp) <;> with_reducible rfl
  try simp only [Act.put, List.setIfInBounds_toArray, List.set_cons_zero, List.set_cons_succ]
  refine wpAnyH_take (i := 5) (oi := { dst := some 177, op := Op.move (Operand.tmp 15), type := 40, pos := "law.go:134", after := #[], guard := none }) (v := ?_) rfl (by kernel_rfl) (by kernel_rfl) (by kernel_rfl) (fun _ _ _ h => h) (Or.inl ⟨by kernel_rfl, ?_⟩) (by assumption) ?_
  rotate_left
  · (intro w hSw; (try dsimp only at hSw); go_simp) <;> with_reducible rfl
  try simp only [Act.put, List.setIfInBounds_toArray, List.set_cons_zero, List.set_cons_succ]
  refine wpAnyH_take (i := 6) (oi := { dst := some 178, op := Op.call { callee := Callee.builtin Builtin.len, args := #[Operand.tmp 177], argTypes := #[40] }, type := 3, pos := "law.go:134", after := #[{ on := 5, ground := Ground.data }], guard := none }) (v := ?_) rfl (by kernel_rfl) (by kernel_rfl) (by kernel_rfl) (fun _ _ _ h => h) (Or.inl ⟨by kernel_rfl, ?_⟩) (by assumption) ?_
  rotate_left
  · (intro w hSw; (try dsimp only at hSw); go_simp) <;> with_reducible rfl
  try simp only [Act.put, List.setIfInBounds_toArray, List.set_cons_zero, List.set_cons_succ]
  refine wpAnyH_take (i := 7) (oi := { dst := some 179, op := Op.binOp BinOp.sub 3 (Operand.tmp 178) (Operand.const (Value.int IntKind.i64 1)) 3, type := 3, pos := "law.go:134", after := #[{ on := 6, ground := Ground.data }], guard := none }) (v := ?_) rfl (by kernel_rfl) (by kernel_rfl) (by kernel_rfl) (fun _ _ _ h => h) (Or.inl ⟨by kernel_rfl, ?_⟩) (by assumption) ?_
  rotate_left
  · (intro w hSw; (try dsimp only at hSw); go_simp) <;> with_reducible rfl
  try simp only [Act.put, List.setIfInBounds_toArray, List.set_cons_zero, List.set_cons_succ]
  refine wpAnyH_take (i := 8) (oi := { dst := some 180, op := Op.move (Operand.tmp 20), type := 3, pos := "law.go:134", after := #[], guard := none }) (v := ?_) rfl (by kernel_rfl) (by kernel_rfl) (by kernel_rfl) (fun _ _ _ h => h) (Or.inl ⟨by kernel_rfl, ?_⟩) (by assumption) ?_
  rotate_left
  · (intro w hSw; (try dsimp only at hSw); go_simp) <;> with_reducible rfl
  try simp only [Act.put, List.setIfInBounds_toArray, List.set_cons_zero, List.set_cons_succ]
  refine wpAnyH_take (i := 9) (oi := { dst := some 181, op := Op.binOp BinOp.sub 3 (Operand.tmp 179) (Operand.tmp 180) 3, type := 3, pos := "law.go:134", after := #[{ on := 7, ground := Ground.data }, { on := 8, ground := Ground.data }], guard := none }) (v := ?_) rfl (by kernel_rfl) (by kernel_rfl) (by kernel_rfl) (fun _ _ _ h => h) (Or.inl ⟨by kernel_rfl, ?_⟩) (by assumption) ?_
  rotate_left
  · (intro w hSw; (try dsimp only at hSw); go_simp) <;> with_reducible rfl
  try simp only [Act.put, List.setIfInBounds_toArray, List.set_cons_zero, List.set_cons_succ]
  refine wpAnyH_take (i := 10) (oi := { dst := some 182, op := Op.indexAddr 40 (Operand.tmp 176) (Operand.tmp 181), type := 0, pos := "law.go:134", after := #[{ on := 4, ground := Ground.data }, { on := 9, ground := Ground.data }], guard := none }) (v := ?_) rfl (by kernel_rfl) (by kernel_rfl) (by kernel_rfl) (fun _ _ _ h => h) (Or.inl ⟨by kernel_rfl, ?_⟩) (by assumption) ?_
  rotate_left
  · (intro w hSw; (try dsimp only at hSw); go_simp) <;> with_reducible rfl
  try simp only [Act.put, List.setIfInBounds_toArray, List.set_cons_zero, List.set_cons_succ]
  refine wpAnyH_take (i := 11) (oi := { dst := some 183, op := Op.load 33 (Operand.tmp 182), type := 33, pos := "law.go:134", after := #[{ on := 10, ground := Ground.data }], guard := none }) (v := ?_) rfl (by kernel_rfl) (by kernel_rfl) (by kernel_rfl) (fun _ _ _ h => h) (Or.inl ⟨by kernel_rfl, ?_⟩) (by assumption) ?_
  rotate_left
  · (intro w hSw; (try dsimp only at hSw); go_simp) <;> with_reducible rfl
  try simp only [Act.put, List.setIfInBounds_toArray, List.set_cons_zero, List.set_cons_succ]
  refine wpAnyH_take (i := 12) (oi := { dst := some 184, op := Op.binOp BinOp.neq 33 (Operand.tmp 175) (Operand.tmp 183) 33, type := 4, pos := "law.go:134", after := #[{ on := 3, ground := Ground.data }, { on := 11, ground := Ground.data }], guard := none }) (v := ?_) rfl (by kernel_rfl) (by kernel_rfl) (by kernel_rfl) (fun _ _ _ h => h) (Or.inl ⟨by kernel_rfl, ?_⟩) (by assumption) ?_
  rotate_left
  · (intro w hSw; (try dsimp only at hSw); go_simp) <;> with_reducible rfl
  try simp only [Act.put, List.setIfInBounds_toArray, List.set_cons_zero, List.set_cons_succ]
  refine wpAnyH_take (i := 13) (oi := { dst := some 185, op := Op.move (Operand.tmp 184), type := 4, pos := "law.go:134", after := #[{ on := 12, ground := Ground.data }], guard := none }) (v := ?_) rfl (by kernel_rfl) (by kernel_rfl) (by kernel_rfl) (fun _ _ _ h => h) (Or.inl ⟨by kernel_rfl, ?_⟩) (by assumption) ?_
  rotate_left
  · (intro w hSw; (try dsimp only at hSw); go_simp) <;> with_reducible rfl
  try simp only [Act.put, List.setIfInBounds_toArray, List.set_cons_zero, List.set_cons_succ]
  refine wpAnyH_take (i := 14) (oi := { dst := some 186, op := Op.move (Operand.tmp 7), type := 24, pos := "law.go:134", after := #[{ on := 13, ground := Ground.guard }], guard := some (13, false) }) (v := ?_) rfl (by kernel_rfl) (by kernel_rfl) (by kernel_rfl) (fun _ _ _ h => h) (Or.inl ⟨by kernel_rfl, ?_⟩) (by assumption) ?_
  rotate_left
  · (intro w hSw; (try dsimp only at hSw); go_simp) <;> with_reducible rfl
  try simp only [Act.put, List.setIfInBounds_toArray, List.set_cons_zero, List.set_cons_succ]
  refine wpAnyH_take (i := 15) (oi := { dst := some 187, op := Op.move (Operand.tmp 18), type := 40, pos := "law.go:134", after := #[{ on := 13, ground := Ground.guard }], guard := some (13, false) }) (v := ?_) rfl (by kernel_rfl) (by kernel_rfl) (by kernel_rfl) (fun _ _ _ h => h) (Or.inl ⟨by kernel_rfl, ?_⟩) (by assumption) ?_
  rotate_left
  · (intro w hSw; (try dsimp only at hSw); go_simp) <;> with_reducible rfl
  try simp only [Act.put, List.setIfInBounds_toArray, List.set_cons_zero, List.set_cons_succ]
  refine wpAnyH_take (i := 16) (oi := { dst := some 188, op := Op.move (Operand.tmp 20), type := 3, pos := "law.go:134", after := #[{ on := 13, ground := Ground.guard }], guard := some (13, false) }) (v := ?_) rfl (by kernel_rfl) (by kernel_rfl) (by kernel_rfl) (fun _ _ _ h => h) (Or.inl ⟨by kernel_rfl, ?_⟩) (by assumption) ?_
  rotate_left
  · (intro w hSw; (try dsimp only at hSw); go_simp) <;> with_reducible rfl
  try simp only [Act.put, List.setIfInBounds_toArray, List.set_cons_zero, List.set_cons_succ]
  refine wpAnyH_take (i := 17) (oi := { dst := some 189, op := Op.indexAddr 40 (Operand.tmp 187) (Operand.tmp 188), type := 0, pos := "law.go:134", after := #[{ on := 15, ground := Ground.data }, { on := 16, ground := Ground.data }, { on := 13, ground := Ground.guard }], guard := some (13, false) }) (v := ?_) rfl (by kernel_rfl) (by kernel_rfl) (by kernel_rfl) (fun _ _ _ h => h) (Or.inl ⟨by kernel_rfl, ?_⟩) (by assumption) ?_
  rotate_left
  · (intro w hSw; (try dsimp only at hSw); go_simp) <;> with_reducible rfl
  try simp only [Act.put, List.setIfInBounds_toArray, List.set_cons_zero, List.set_cons_succ]
  refine wpAnyH_take (i := 18) (oi := { dst := some 190, op := Op.load 33 (Operand.tmp 189), type := 33, pos := "law.go:134", after := #[{ on := 17, ground := Ground.data }, { on := 13, ground := Ground.guard }], guard := some (13, false) }) (v := ?_) rfl (by kernel_rfl) (by kernel_rfl) (by kernel_rfl) (fun _ _ _ h => h) (Or.inl ⟨by kernel_rfl, ?_⟩) (by assumption) ?_
  rotate_left
  · (intro w hSw; (try dsimp only at hSw); go_simp) <;> with_reducible rfl
  try simp only [Act.put, List.setIfInBounds_toArray, List.set_cons_zero, List.set_cons_succ]
  refine wpAnyH_ready (rs := [19]) (by kernel_rfl) (by simp) ?_
  refine AllReadyH.cons (o := { dst := some 191, op := Op.call { callee := Callee.value (Operand.func 24), args := #[Operand.tmp 186, Operand.tmp 190], argTypes := #[24, 33] }, type := 3, pos := "law.go:134", after := #[{ on := 14, ground := Ground.data }, { on := 18, ground := Ground.data }, { on := 13, ground := Ground.chain }, { on := 13, ground := Ground.guard }], guard := some (13, false) }) rfl (fun K hK => ?_) AllReadyH.nil
  go_simp
  (go_at_call 24; refine (H24.out _ h0).mono ?_; rintro e w8 ⟨rfl, hb8⟩)
  try dsimp only
  refine hK.out _ _ ?_ (fun hHeld0 => ?_)
  · exact ⟨HHC.out _ hb8, HHP.out _ hb8, hb8⟩
  clear hK K
  try simp only [Act.put, List.setIfInBounds_toArray, List.set_cons_zero, List.set_cons_succ]
  refine wpAnyH_take (i := 20) (oi := { dst := some 192, op := Op.binOp BinOp.neq 3 (Operand.tmp 191) (Operand.const (Value.int IntKind.i64 0)) 3, type := 4, pos := "law.go:134", after := #[{ on := 19, ground := Ground.data }, { on := 13, ground := Ground.guard }], guard := some (13, false) }) (v := ?_) rfl (by kernel_rfl) (by kernel_rfl) (by kernel_rfl) (fun _ _ _ h => h) (Or.inl ⟨by kernel_rfl, ?_⟩) (by assumption) ?_
  rotate_left
  · (intro w hSw; (try dsimp only at hSw); go_simp) <;> with_reducible rfl
  try simp only [Act.put, List.setIfInBounds_toArray, List.set_cons_zero, List.set_cons_succ]
  refine wpAnyH_take (i := 21) (oi := { dst := some 193, op := Op.pick (Operand.tmp 185) (Operand.const (Value.bool true)) (Operand.tmp 192), type := 4, pos := "law.go:134", after := #[{ on := 13, ground := Ground.data }, { on := 20, ground := Ground.data }], guard := none }) (v := ?_) rfl (by kernel_rfl) (by kernel_rfl) (by kernel_rfl) (fun _ _ _ h => h) (Or.inl ⟨by kernel_rfl, ?_⟩) (by assumption) ?_
  rotate_left
  · (intro w hSw; (try dsimp only at hSw); go_simp) <;> with_reducible rfl
  try simp only [Act.put, List.setIfInBounds_toArray, List.set_cons_zero, List.set_cons_succ]
  refine wpAnyH_take (i := 22) (oi := { dst := some 194, op := Op.move (Operand.tmp 193), type := 4, pos := "law.go:134", after := #[{ on := 21, ground := Ground.data }, { on := 19, ground := Ground.chain }], guard := none }) (v := ?_) rfl (by kernel_rfl) (by kernel_rfl) (by kernel_rfl) (fun _ _ _ h => h) (Or.inl ⟨by kernel_rfl, ?_⟩) (by assumption) ?_
  rotate_left
  · (intro w hSw; (try dsimp only at hSw); go_simp) <;> with_reducible rfl
  try simp only [Act.put, List.setIfInBounds_toArray, List.set_cons_zero, List.set_cons_succ]
  refine wpAnyH_take (i := 23) (oi := { dst := some 195, op := Op.move (Operand.tmp 7), type := 24, pos := "law.go:134", after := #[{ on := 22, ground := Ground.guard }], guard := some (22, false) }) (v := ?_) rfl (by kernel_rfl) (by kernel_rfl) (by kernel_rfl) (fun _ _ _ h => h) (Or.inl ⟨by kernel_rfl, ?_⟩) (by assumption) ?_
  rotate_left
  · (intro w hSw; (try dsimp only at hSw); go_simp) <;> with_reducible rfl
  try simp only [Act.put, List.setIfInBounds_toArray, List.set_cons_zero, List.set_cons_succ]
  refine wpAnyH_take (i := 24) (oi := { dst := some 196, op := Op.move (Operand.tmp 18), type := 40, pos := "law.go:134", after := #[{ on := 22, ground := Ground.guard }], guard := some (22, false) }) (v := ?_) rfl (by kernel_rfl) (by kernel_rfl) (by kernel_rfl) (fun _ _ _ h => h) (Or.inl ⟨by kernel_rfl, ?_⟩) (by assumption) ?_
  rotate_left
  · (intro w hSw; (try dsimp only at hSw); go_simp) <;> with_reducible rfl
  try simp only [Act.put, List.setIfInBounds_toArray, List.set_cons_zero, List.set_cons_succ]
  refine wpAnyH_take (i := 25) (oi := { dst := some 197, op := Op.move (Operand.tmp 20), type := 3, pos := "law.go:134", after := #[{ on := 22, ground := Ground.guard }], guard := some (22, false) }) (v := ?_) rfl (by kernel_rfl) (by kernel_rfl) (by kernel_rfl) (fun _ _ _ h => h) (Or.inl ⟨by kernel_rfl, ?_⟩) (by assumption) ?_
  rotate_left
  · (intro w hSw; (try dsimp only at hSw); go_simp) <;> with_reducible rfl
  try simp only [Act.put, List.setIfInBounds_toArray, List.set_cons_zero, List.set_cons_succ]
  refine wpAnyH_take (i := 26) (oi := { dst := some 198, op := Op.indexAddr 40 (Operand.tmp 196) (Operand.tmp 197), type := 0, pos := "law.go:134", after := #[{ on := 24, ground := Ground.data }, { on := 25, ground := Ground.data }, { on := 22, ground := Ground.guard }], guard := some (22, false) }) (v := ?_) rfl (by kernel_rfl) (by kernel_rfl) (by kernel_rfl) (fun _ _ _ h => h) (Or.inl ⟨by kernel_rfl, ?_⟩) (by assumption) ?_
  rotate_left
  · (intro w hSw; (try dsimp only at hSw); go_simp) <;> with_reducible rfl
  try simp only [Act.put, List.setIfInBounds_toArray, List.set_cons_zero, List.set_cons_succ]
  refine wpAnyH_take (i := 27) (oi := { dst := some 199, op := Op.load 33 (Operand.tmp 198), type := 33, pos := "law.go:134", after := #[{ on := 26, ground := Ground.data }, { on := 22, ground := Ground.guard }], guard := some (22, false) }) (v := ?_) rfl (by kernel_rfl) (by kernel_rfl) (by kernel_rfl) (fun _ _ _ h => h) (Or.inl ⟨by kernel_rfl, ?_⟩) (by assumption) ?_
  rotate_left
  · (intro w hSw; (try dsimp only at hSw); go_simp) <;> with_reducible rfl
  try simp only [Act.put, List.setIfInBounds_toArray, List.set_cons_zero, List.set_cons_succ]
  refine wpAnyH_ready (rs := [28]) (by kernel_rfl) (by simp) ?_
  refine AllReadyH.cons (o := { dst := some 200, op := Op.call { callee := Callee.value (Operand.func 16), args := #[Operand.tmp 199], argTypes := #[33] }, type := 3, pos := "law.go:134", after := #[{ on := 27, ground := Ground.data }, { on := 22, ground := Ground.chain }, { on := 22, ground := Ground.guard }], guard := some (22, false) }) rfl (fun K hK => ?_) AllReadyH.nil
  go_simp
  (go_at_call 16; refine (H16.out _).mono ?_; rintro e w13 ⟨rfl, hw⟩; rw [hw]; clear hw)
  try dsimp only
  refine hK.out _ _ ?_ (fun hHeld1 => ?_)
  · exact ⟨HHC.out _ hb8, HHP.out _ hb8, hb8⟩
  clear hK K
  try simp only [Act.put, List.setIfInBounds_toArray, List.set_cons_zero, List.set_cons_succ]
  refine wpAnyH_ready (rs := [29]) (by kernel_rfl) (by simp) ?_
  refine AllReadyH.cons (o := { dst := some 201, op := Op.call { callee := Callee.value (Operand.func 25), args := #[Operand.tmp 195, Operand.tmp 200], argTypes := #[24, 3] }, type := 3, pos := "law.go:134", after := #[{ on := 23, ground := Ground.data }, { on := 28, ground := Ground.data }, { on := 28, ground := Ground.chain }, { on := 22, ground := Ground.guard }], guard := some (22, false) }) rfl (fun K hK => ?_) AllReadyH.nil
  go_simp
  (go_at_call 25; refine (H25.out _ hb8).mono ?_; rintro e w11 ⟨rfl, hb11⟩)
  try dsimp only
  refine hK.out _ _ ?_ (fun hHeld2 => ?_)
  · exact ⟨HHC.out _ hb11, HHP.out _ hb11, hb11⟩
  clear hK K
  try simp only [Act.put, List.setIfInBounds_toArray, List.set_cons_zero, List.set_cons_succ]
  refine wpAnyH_take (i := 30) (oi := { dst := some 202, op := Op.binOp BinOp.neq 3 (Operand.tmp 201) (Operand.const (Value.int IntKind.i64 (-1))) 3, type := 4, pos := "law.go:134", after := #[{ on := 29, ground := Ground.data }, { on := 22, ground := Ground.guard }], guard := some (22, false) }) (v := ?_) rfl (by kernel_rfl) (by kernel_rfl) (by kernel_rfl) (fun _ _ _ h => h) (Or.inl ⟨by kernel_rfl, ?_⟩) (by assumption) ?_
  rotate_left
  · (intro w hSw; (try dsimp only at hSw); go_simp) <;> with_reducible rfl
  try simp only [Act.put, List.setIfInBounds_toArray, List.set_cons_zero, List.set_cons_succ]
  refine wpAnyH_take (i := 31) (oi := { dst := some 203, op := Op.pick (Operand.tmp 194) (Operand.const (Value.bool true)) (Operand.tmp 202), type := 4, pos := "law.go:134", after := #[{ on := 22, ground := Ground.data }, { on := 30, ground := Ground.data }], guard := none }) (v := ?_) rfl (by kernel_rfl) (by kernel_rfl) (by kernel_rfl) (fun _ _ _ h => h) (Or.inl ⟨by kernel_rfl, ?_⟩) (by assumption) ?_
  rotate_left
  · (intro w hSw; (try dsimp only at hSw); go_simp) <;> with_reducible rfl
  try simp only [Act.put, List.setIfInBounds_toArray, List.set_cons_zero, List.set_cons_succ]
  refine wpAnyH_done (by kernel_rfl) ?_ _
  refine NoPanic.normal ?_
  exact HQ.out _ _ _ _ _ _ _ _ _ _ _ _ _ _ _ _ _ _ _ _ _ _ _ _ _ _ _ _ _ _ _ _ hb11
end Go.Proofs.Ytckpahdlcdgbpaa
