/- Two regions of AclBits that draw their order: a copy of a list with one more behind it. -/
import Derived.Test.YtapnaknbidmnmaaDoorQdBJ
import Derived.Test.YtapnaknbidmnmaaDoorQcNJ
import Derived.Deep.RegionHeld
namespace Go.Proofs.YtapnaknbidmnmaaDoor
open Go.RowKit Go.Shelf
set_option maxRecDepth 8000

theorem ownsR_base {w : World} {b b' : Nat} {e : TypeId} {z n : Nat} {v : Value} {xs : List Value} (h : w.ownsRow b e z v n xs) (hb : b' ≤ b) : w.ownsRow b' e z v n xs := by
  obtain ⟨h1, h2 | ⟨g, cap, cur, a1, a2, a3⟩⟩ := h
  · exact ⟨h1, .inl h2⟩
  · exact ⟨h1, .inr ⟨g, cap, cur, a1, Nat.le_trans hb a2, a3⟩⟩

set_option maxHeartbeats 4000000 in
theorem reg20 {Q : Exit → Act → World → Prop} {t0 t1 t2 t3 t5 t6 t7 t8 t10 t11 t12 t13 t14 t15 t16 t17 t18 t19 t20 t21 t22 t23 t24 t25 t26 t27 t28 t29 t30 t31 t32 t33 t34 t35 t36 t37 t38 t39 t40 t41 t42 t43 t44 t45 t46 t47 t48 t49 t50 t51 t52 t53 t54 t55 t56 t57 t58 t59 t60 t61 t62 t63 t64 t65 t66 t67 t68 t69 t70 t71 t72 t73 t74 t75 t76 t77 t78 t79 t80 t81 t82 t83 t84 t85 t86 t87 t88 t89 t90 t91 t92 t93 t94 t95 t96 t97 t98 t99 t100 t101 t102 t103 t104 t105 t106 t107 t108 t109 t110 t111 t112 t113 t114 t115 t116 t117 t118 t119 t120 t121 t122 t123 t124 t125 t126 t127 t128 t129 t130 t131 t132 t133 t134 t135 t136 t137 t138 t139 t140 t141 t142 t143 t144 t145 t146 t147 t148 t149 t150 t151 t152 t153 t154 t155 t156 t157 t158 t159 t160 t161 t162 t163 t164 t165 t166 t167 t168 t169 t170 t171 t172 t173 t174 t175 t176 t177 t178 t179 t180 t181 t182 t183 t184 t185 t186 t187 t188 t189 t190 t191 t192 t193 t194 t195 t196 t197 : Value} (V : World) (mb : Nat) (fv : Value) (f : List EnT) (x : EnT) (hS : SE V fv f) (hlen : f.length ≤ 1000) (c0 : V.cell? ⟨mb, 0, none⟩ = some (.int .i8 x.1)) (c1 : V.cell? ⟨mb, 1, none⟩ = some (.string x.2.1)) (c2 : V.cell? ⟨mb, 2, none⟩ = some (.string x.2.2)) (hP : ∀ c (a : Act) (i : Nat) v w, Q (.panic c) (a.put (some i) v) w → Q (.panic c) a w)
    (hQ : ∀ (v' wv : Value) (vs : Nat) (w' : World), w'.ownsRow V.heap.size 28 3 wv (f ++ [x]).length (enFlat (f ++ [x])) → Below V.heap.size V w' → Q .normal { tmps := #[t0, t1, t2, t3, (.pointer (some ⟨mb, 0, none⟩)), t5, t6, t7, t8, fv, t10, t11, t12, t13, wv, t15, t16, t17, t18, t19, t20, t21, t22, t23, t24, t25, t26, t27, t28, t29, t30, t31, t32, t33, t34, t35, t36, t37, t38, t39, t40, t41, t42, t43, t44, t45, t46, t47, t48, t49, t50, t51, t52, t53, t54, t55, t56, t57, t58, t59, t60, t61, t62, t63, t64, t65, t66, t67, t68, t69, t70, t71, t72, t73, t74, t75, t76, t77, t78, t79, t80, t81, t82, t83, t84, t85, t86, t87, t88, t89, t90, t91, t92, t93, t94, t95, t96, t97, t98, t99, t100, t101, t102, t103, t104, t105, t106, t107, t108, fv, v', (.agg (enCs x)), (.slice (some ⟨vs, 0, none⟩) 1 1), wv, t114, t115, t116, t117, t118, t119, t120, t121, t122, t123, t124, t125, t126, t127, t128, t129, t130, t131, t132, t133, t134, t135, t136, t137, t138, t139, t140, t141, t142, t143, t144, t145, t146, t147, t148, t149, t150, t151, t152, t153, t154, t155, t156, t157, t158, t159, t160, t161, t162, t163, t164, t165, t166, t167, t168, t169, t170, t171, t172, t173, t174, t175, t176, t177, t178, t179, t180, t181, t182, t183, t184, t185, t186, t187, t188, t189, t190, t191, t192, t193, t194, t195, t196, t197], defers := [] } w') :
    Code.wp Tryd.prog (Code.region 20 #[{ dst := some 109, op := Op.move (Operand.tmp 9), type := 22, pos := "law.go:184", after := #[], guard := none }, { dst := some 110, op := Op.call { callee := Callee.value (Operand.func 10), args := #[Operand.tmp 109], argTypes := #[22] }, type := 22, pos := "law.go:184", after := #[{ on := 0, ground := Ground.data }], guard := none }, { dst := some 111, op := Op.load 28 (Operand.tmp 4), type := 28, pos := "law.go:184", after := #[], guard := none }, { dst := some 112, op := Op.buildSlice 22 1 #[(0, Operand.tmp 111)], type := 22, pos := "law.go:184", after := #[{ on := 2, ground := Ground.data }], guard := none }, { dst := some 113, op := Op.call { callee := Callee.builtin Builtin.append, args := #[Operand.tmp 110, Operand.tmp 112], argTypes := #[22, 22] }, type := 22, pos := "law.go:184", after := #[{ on := 1, ground := Ground.data }, { on := 3, ground := Ground.data }, { on := 1, ground := Ground.chain }], guard := none }, { dst := some 14, op := Op.assign (Operand.tmp 113), type := 22, pos := "law.go:184", after := #[{ on := 4, ground := Ground.data }, { on := 4, ground := Ground.chain }, { on := 0, ground := Ground.phase }, { on := 1, ground := Ground.phase }, { on := 2, ground := Ground.phase }, { on := 3, ground := Ground.phase }, { on := 4, ground := Ground.phase }], guard := none }] true) Q { tmps := #[t0, t1, t2, t3, (.pointer (some ⟨mb, 0, none⟩)), t5, t6, t7, t8, fv, t10, t11, t12, t13, t14, t15, t16, t17, t18, t19, t20, t21, t22, t23, t24, t25, t26, t27, t28, t29, t30, t31, t32, t33, t34, t35, t36, t37, t38, t39, t40, t41, t42, t43, t44, t45, t46, t47, t48, t49, t50, t51, t52, t53, t54, t55, t56, t57, t58, t59, t60, t61, t62, t63, t64, t65, t66, t67, t68, t69, t70, t71, t72, t73, t74, t75, t76, t77, t78, t79, t80, t81, t82, t83, t84, t85, t86, t87, t88, t89, t90, t91, t92, t93, t94, t95, t96, t97, t98, t99, t100, t101, t102, t103, t104, t105, t106, t107, t108, t109, t110, t111, t112, t113, t114, t115, t116, t117, t118, t119, t120, t121, t122, t123, t124, t125, t126, t127, t128, t129, t130, t131, t132, t133, t134, t135, t136, t137, t138, t139, t140, t141, t142, t143, t144, t145, t146, t147, t148, t149, t150, t151, t152, t153, t154, t155, t156, t157, t158, t159, t160, t161, t162, t163, t164, t165, t166, t167, t168, t169, t170, t171, t172, t173, t174, t175, t176, t177, t178, t179, t180, t181, t182, t183, t184, t185, t186, t187, t188, t189, t190, t191, t192, t193, t194, t195, t196, t197], defers := [] } V := by
  obtain ⟨fo, fcap, rfl, _⟩ := id hS
  refine wp_region_held_drew (S := fun V' => V'.cell? ⟨mb, 0, none⟩ = some (.int .i8 x.1) ∧ V'.cell? ⟨mb, 1, none⟩ = some (.string x.2.1) ∧ V'.cell? ⟨mb, 2, none⟩ = some (.string x.2.2)) (by kernel_rfl) ?_ (fun hHeld => ?_)
  · exact ⟨cell_below (below_drewN (Below.refl _ _) 1) c0, cell_below (below_drewN (Below.refl _ _) 1) c1, cell_below (below_drewN (Below.refl _ _) 1) c2⟩
  refine wpAnyH_take (i := 0) (oi := { dst := some 109, op := Op.move (Operand.tmp 9), type := 22, pos := "law.go:184", after := #[], guard := none }) (v := ?_) rfl (by kernel_rfl) (by kernel_rfl) (by kernel_rfl) (fun _ _ _ h => hP _ _ _ _ _ h) (Or.inl ⟨by rfl, ?_⟩) (by assumption) ?_
  rotate_left
  · (intro w hSw; (try dsimp only at hSw); go_simp) <;> with_reducible rfl
  try simp only [Act.put, List.setIfInBounds_toArray, List.set_cons_zero, List.set_cons_succ]
  refine wpAnyH_take (i := 2) (oi := { dst := some 111, op := Op.load 28 (Operand.tmp 4), type := 28, pos := "law.go:184", after := #[], guard := none }) (v := ?_) rfl (by kernel_rfl) (by kernel_rfl) (by kernel_rfl) (fun _ _ _ h => hP _ _ _ _ _ h) (Or.inl ⟨by rfl, ?_⟩) (by assumption) ?_
  rotate_left
  · (intro w hSw; (try dsimp only at hSw); go_simp) <;> with_reducible rfl
  try simp only [Act.put, List.setIfInBounds_toArray, List.set_cons_zero, List.set_cons_succ]
  refine wpAnyH_ready (rs := [1, 3]) (by kernel_rfl) (by simp) ?_
  refine AllReadyH.cons (o := { dst := some 110, op := Op.call { callee := Callee.value (Operand.func 10), args := #[Operand.tmp 109], argTypes := #[22] }, type := 22, pos := "law.go:184", after := #[{ on := 0, ground := Ground.data }], guard := none }) rfl (fun K hK => ?_) (AllReadyH.cons (o := { dst := some 112, op := Op.buildSlice 22 1 #[(0, Operand.tmp 111)], type := 22, pos := "law.go:184", after := #[{ on := 2, ground := Ground.data }], guard := none }) rfl (fun K hK => ?_) AllReadyH.nil)
  · go_simp
    have B0 : Below V.heap.size V V.drew := below_drewN (Below.refl _ _) 1
    refine (copyAcl_se _ f V.drew (hS.below B0) hlen).mono ?_
    rintro e wc ⟨v', rfl, ho, hB⟩
    have B1 : Below V.heap.size V wc := B0.trans hB
    clear hHeld
    refine hK.out _ _ ⟨cell_below B1 c0, cell_below B1 c1, cell_below B1 c2⟩ (fun hHeld => ?_)
    clear hK K
    refine wpAnyH_ready (rs := [3]) (by kernel_rfl) (by simp) ?_
    refine AllReadyH.cons (o := { dst := some 112, op := Op.buildSlice 22 1 #[(0, Operand.tmp 111)], type := 22, pos := "law.go:184", after := #[{ on := 2, ground := Ground.data }], guard := none }) rfl (fun K hK => ?_) AllReadyH.nil
    go_simp
    have B2 : Below wc.heap.size wc (wc.alloc (.cells (enCs x) 28)) := (Below.refl _ _).alloc (Nat.le_refl _) _
    clear hHeld
    refine hK.out _ _ ⟨cell_below (B1.trans (B2.mono B1.size)) c0, cell_below (B1.trans (B2.mono B1.size)) c1, cell_below (B1.trans (B2.mono B1.size)) c2⟩ (fun hHeld => ?_)
    clear hK K
    refine wpAnyH_ready (rs := [4]) (by kernel_rfl) (by simp) ?_
    refine AllReadyH.cons (o := { dst := some 113, op := Op.call { callee := Callee.builtin Builtin.append, args := #[Operand.tmp 110, Operand.tmp 112], argTypes := #[22, 22] }, type := 22, pos := "law.go:184", after := #[{ on := 1, ground := Ground.data }, { on := 3, ground := Ground.data }, { on := 1, ground := Ground.chain }], guard := none }) rfl (fun K hK => ?_) AllReadyH.nil
    obtain ⟨wv, w', hr, ho2, hg⟩ := app_en (x := x) 22 (owns_below ho B2) (heap_alloc_new wc _) (by omega) (B1.trans (B2.mono B1.size)).size
    have B3 : Below V.heap.size V w' := grown_below (w0 := V) (B1.trans (B2.mono B1.size)) (owns_below ho B2) hg
    rw [if_pos (by rfl)]
    refine Lib.wp_append_run_sl _ _ _ 22 (by rfl) _ _ (by rfl) (by rfl) hr ?_
    clear hHeld
    refine hK.out _ _ ⟨cell_below B3 c0, cell_below B3 c1, cell_below B3 c2⟩ (fun hHeld => ?_)
    try simp only [Act.put, List.setIfInBounds_toArray, List.set_cons_zero, List.set_cons_succ]
    clear hK K
    refine wpAnyH_take (i := 5) (oi := { dst := some 14, op := Op.assign (Operand.tmp 113), type := 22, pos := "law.go:184", after := #[{ on := 4, ground := Ground.data }, { on := 4, ground := Ground.chain }, { on := 0, ground := Ground.phase }, { on := 1, ground := Ground.phase }, { on := 2, ground := Ground.phase }, { on := 3, ground := Ground.phase }, { on := 4, ground := Ground.phase }], guard := none }) (v := ?_) rfl (by kernel_rfl) (by kernel_rfl) (by kernel_rfl) (fun _ _ _ h => hP _ _ _ _ _ h) (Or.inl ⟨by rfl, ?_⟩) (by assumption) ?_
    rotate_left
    · (intro w hSw; (try dsimp only at hSw); go_simp) <;> with_reducible rfl
    try simp only [Act.put, List.setIfInBounds_toArray, List.set_cons_zero, List.set_cons_succ]
    refine wpAnyH_done (by kernel_rfl) ?_ _
    exact hQ _ _ _ _ ho2 B3
  · go_simp
    have B0 : Below V.heap.size V V.drew := below_drewN (Below.refl _ _) 1
    have B2 : Below V.heap.size V (V.drew.alloc (.cells (enCs x) 28)) := B0.alloc B0.size _
    have hnew : (V.drew.alloc (.cells (enCs x) 28)).heap[V.drew.heap.size]? = some (.cells (enCs x) 28 (0, 0)) := heap_alloc_new _ _
    clear hHeld
    refine hK.out _ _ ⟨cell_below B2 c0, cell_below B2 c1, cell_below B2 c2⟩ (fun hHeld => ?_)
    clear hK K
    refine wpAnyH_ready (rs := [1]) (by kernel_rfl) (by simp) ?_
    refine AllReadyH.cons (o := { dst := some 110, op := Op.call { callee := Callee.value (Operand.func 10), args := #[Operand.tmp 109], argTypes := #[22] }, type := 22, pos := "law.go:184", after := #[{ on := 0, ground := Ground.data }], guard := none }) rfl (fun K hK => ?_) AllReadyH.nil
    go_simp
    refine (copyAcl_se _ f _ (hS.below B2) hlen).mono ?_
    rintro e wc ⟨v', rfl, ho, hB⟩
    have B1 : Below V.heap.size V wc := B2.trans (hB.mono B2.size)
    have hnew2 : wc.heap[V.drew.heap.size]? = some (.cells (enCs x) 28 (0, 0)) := (hB.block _ (lt_of_block hnew)).trans hnew
    clear hHeld
    refine hK.out _ _ ⟨cell_below B1 c0, cell_below B1 c1, cell_below B1 c2⟩ (fun hHeld => ?_)
    clear hK K
    refine wpAnyH_ready (rs := [4]) (by kernel_rfl) (by simp) ?_
    refine AllReadyH.cons (o := { dst := some 113, op := Op.call { callee := Callee.builtin Builtin.append, args := #[Operand.tmp 110, Operand.tmp 112], argTypes := #[22, 22] }, type := 22, pos := "law.go:184", after := #[{ on := 1, ground := Ground.data }, { on := 3, ground := Ground.data }, { on := 1, ground := Ground.chain }], guard := none }) rfl (fun K hK => ?_) AllReadyH.nil
    obtain ⟨wv, w', hr, ho2, hg⟩ := app_en (x := x) 22 (ownsR_base ho B2.size) hnew2 (by omega) B1.size
    have B3 : Below V.heap.size V w' := grown_below (w0 := V) B1 (ownsR_base ho B2.size) hg
    rw [if_pos (by rfl)]
    refine Lib.wp_append_run_sl _ _ _ 22 (by rfl) _ _ (by rfl) (by rfl) hr ?_
    clear hHeld
    refine hK.out _ _ ⟨cell_below B3 c0, cell_below B3 c1, cell_below B3 c2⟩ (fun hHeld => ?_)
    try simp only [Act.put, List.setIfInBounds_toArray, List.set_cons_zero, List.set_cons_succ]
    clear hK K
    refine wpAnyH_take (i := 5) (oi := { dst := some 14, op := Op.assign (Operand.tmp 113), type := 22, pos := "law.go:184", after := #[{ on := 4, ground := Ground.data }, { on := 4, ground := Ground.chain }, { on := 0, ground := Ground.phase }, { on := 1, ground := Ground.phase }, { on := 2, ground := Ground.phase }, { on := 3, ground := Ground.phase }, { on := 4, ground := Ground.phase }], guard := none }) (v := ?_) rfl (by kernel_rfl) (by kernel_rfl) (by kernel_rfl) (fun _ _ _ h => hP _ _ _ _ _ h) (Or.inl ⟨by rfl, ?_⟩) (by assumption) ?_
    rotate_left
    · (intro w hSw; (try dsimp only at hSw); go_simp) <;> with_reducible rfl
    try simp only [Act.put, List.setIfInBounds_toArray, List.set_cons_zero, List.set_cons_succ]
    refine wpAnyH_done (by kernel_rfl) ?_ _
    exact hQ _ _ _ _ ho2 B3

set_option maxHeartbeats 4000000 in
theorem reg21 {Q : Exit → Act → World → Prop} {t0 t1 t2 t3 t4 t7 t8 t9 t10 t11 t12 t13 t14 t15 t16 t17 t18 t19 t20 t21 t22 t23 t24 t25 t26 t27 t28 t29 t30 t31 t32 t33 t34 t35 t36 t37 t38 t39 t40 t41 t42 t43 t44 t45 t46 t47 t48 t49 t50 t51 t52 t53 t54 t55 t56 t57 t58 t59 t60 t61 t62 t63 t64 t65 t66 t67 t68 t69 t70 t71 t72 t73 t74 t75 t76 t77 t78 t79 t80 t81 t82 t83 t84 t85 t86 t87 t88 t89 t90 t91 t92 t93 t94 t95 t96 t97 t98 t99 t100 t101 t102 t103 t104 t105 t106 t107 t108 t109 t110 t111 t112 t113 t114 t115 t116 t117 t118 t119 t120 t121 t122 t123 t124 t125 t126 t127 t128 t129 t130 t131 t132 t133 t134 t135 t136 t137 t138 t139 t140 t141 t142 t143 t144 t145 t146 t147 t148 t149 t150 t151 t152 t153 t154 t155 t156 t157 t158 t159 t160 t161 t162 t163 t164 t165 t166 t167 t168 t169 t170 t171 t172 t173 t174 t175 t176 t177 t178 t179 t180 t181 t182 t183 t184 t185 t186 t187 t188 t189 t190 t191 t192 t193 t194 t195 t196 t197 : Value} (V : World) (mb : Nat) (fv : Value) (f : List IdT) (x : IdT) (hS : SI V fv f) (hlen : f.length ≤ 2000000000) (c0 : V.cell? ⟨mb, 0, none⟩ = some (.string x.1)) (c1 : V.cell? ⟨mb, 1, none⟩ = some (.string x.2)) (hP : ∀ c (a : Act) (i : Nat) v w, Q (.panic c) (a.put (some i) v) w → Q (.panic c) a w)
    (hQ : ∀ (v' wv : Value) (vs : Nat) (w' : World), w'.ownsRow V.heap.size 26 2 wv (f ++ [x]).length (idFlat (f ++ [x])) → Below V.heap.size V w' → Q .normal { tmps := #[t0, t1, t2, t3, t4, fv, (.pointer (some ⟨mb, 0, none⟩)), t7, t8, t9, t10, t11, t12, t13, t14, wv, t16, t17, t18, t19, t20, t21, t22, t23, t24, t25, t26, t27, t28, t29, t30, t31, t32, t33, t34, t35, t36, t37, t38, t39, t40, t41, t42, t43, t44, t45, t46, t47, t48, t49, t50, t51, t52, t53, t54, t55, t56, t57, t58, t59, t60, t61, t62, t63, t64, t65, t66, t67, t68, t69, t70, t71, t72, t73, t74, t75, t76, t77, t78, t79, t80, t81, t82, t83, t84, t85, t86, t87, t88, t89, t90, t91, t92, t93, t94, t95, t96, t97, t98, t99, t100, t101, t102, t103, t104, t105, t106, t107, t108, t109, t110, t111, t112, t113, fv, v', (.agg (idCs x)), (.slice (some ⟨vs, 0, none⟩) 1 1), wv, t119, t120, t121, t122, t123, t124, t125, t126, t127, t128, t129, t130, t131, t132, t133, t134, t135, t136, t137, t138, t139, t140, t141, t142, t143, t144, t145, t146, t147, t148, t149, t150, t151, t152, t153, t154, t155, t156, t157, t158, t159, t160, t161, t162, t163, t164, t165, t166, t167, t168, t169, t170, t171, t172, t173, t174, t175, t176, t177, t178, t179, t180, t181, t182, t183, t184, t185, t186, t187, t188, t189, t190, t191, t192, t193, t194, t195, t196, t197], defers := [] } w') :
    Code.wp Tryd.prog (Code.region 21 #[{ dst := some 114, op := Op.move (Operand.tmp 5), type := 23, pos := "law.go:185", after := #[], guard := none }, { dst := some 115, op := Op.call { callee := Callee.value (Operand.func 11), args := #[Operand.tmp 114], argTypes := #[23] }, type := 23, pos := "law.go:185", after := #[{ on := 0, ground := Ground.data }], guard := none }, { dst := some 116, op := Op.load 26 (Operand.tmp 6), type := 26, pos := "law.go:185", after := #[], guard := none }, { dst := some 117, op := Op.buildSlice 23 1 #[(0, Operand.tmp 116)], type := 23, pos := "law.go:185", after := #[{ on := 2, ground := Ground.data }], guard := none }, { dst := some 118, op := Op.call { callee := Callee.builtin Builtin.append, args := #[Operand.tmp 115, Operand.tmp 117], argTypes := #[23, 23] }, type := 23, pos := "law.go:185", after := #[{ on := 1, ground := Ground.data }, { on := 3, ground := Ground.data }, { on := 1, ground := Ground.chain }], guard := none }, { dst := some 15, op := Op.assign (Operand.tmp 118), type := 23, pos := "law.go:185", after := #[{ on := 4, ground := Ground.data }, { on := 4, ground := Ground.chain }, { on := 0, ground := Ground.phase }, { on := 1, ground := Ground.phase }, { on := 2, ground := Ground.phase }, { on := 3, ground := Ground.phase }, { on := 4, ground := Ground.phase }], guard := none }] true) Q { tmps := #[t0, t1, t2, t3, t4, fv, (.pointer (some ⟨mb, 0, none⟩)), t7, t8, t9, t10, t11, t12, t13, t14, t15, t16, t17, t18, t19, t20, t21, t22, t23, t24, t25, t26, t27, t28, t29, t30, t31, t32, t33, t34, t35, t36, t37, t38, t39, t40, t41, t42, t43, t44, t45, t46, t47, t48, t49, t50, t51, t52, t53, t54, t55, t56, t57, t58, t59, t60, t61, t62, t63, t64, t65, t66, t67, t68, t69, t70, t71, t72, t73, t74, t75, t76, t77, t78, t79, t80, t81, t82, t83, t84, t85, t86, t87, t88, t89, t90, t91, t92, t93, t94, t95, t96, t97, t98, t99, t100, t101, t102, t103, t104, t105, t106, t107, t108, t109, t110, t111, t112, t113, t114, t115, t116, t117, t118, t119, t120, t121, t122, t123, t124, t125, t126, t127, t128, t129, t130, t131, t132, t133, t134, t135, t136, t137, t138, t139, t140, t141, t142, t143, t144, t145, t146, t147, t148, t149, t150, t151, t152, t153, t154, t155, t156, t157, t158, t159, t160, t161, t162, t163, t164, t165, t166, t167, t168, t169, t170, t171, t172, t173, t174, t175, t176, t177, t178, t179, t180, t181, t182, t183, t184, t185, t186, t187, t188, t189, t190, t191, t192, t193, t194, t195, t196, t197], defers := [] } V := by
  obtain ⟨fo, fcap, rfl, _⟩ := id hS
  refine wp_region_held_drew (S := fun V' => V'.cell? ⟨mb, 0, none⟩ = some (.string x.1) ∧ V'.cell? ⟨mb, 1, none⟩ = some (.string x.2)) (by kernel_rfl) ?_ (fun hHeld => ?_)
  · exact ⟨cell_below (below_drewN (Below.refl _ _) 1) c0, cell_below (below_drewN (Below.refl _ _) 1) c1⟩
  refine wpAnyH_take (i := 0) (oi := { dst := some 114, op := Op.move (Operand.tmp 5), type := 23, pos := "law.go:185", after := #[], guard := none }) (v := ?_) rfl (by kernel_rfl) (by kernel_rfl) (by kernel_rfl) (fun _ _ _ h => hP _ _ _ _ _ h) (Or.inl ⟨by rfl, ?_⟩) (by assumption) ?_
  rotate_left
  · (intro w hSw; (try dsimp only at hSw); go_simp) <;> with_reducible rfl
  try simp only [Act.put, List.setIfInBounds_toArray, List.set_cons_zero, List.set_cons_succ]
  refine wpAnyH_take (i := 2) (oi := { dst := some 116, op := Op.load 26 (Operand.tmp 6), type := 26, pos := "law.go:185", after := #[], guard := none }) (v := ?_) rfl (by kernel_rfl) (by kernel_rfl) (by kernel_rfl) (fun _ _ _ h => hP _ _ _ _ _ h) (Or.inl ⟨by rfl, ?_⟩) (by assumption) ?_
  rotate_left
  · (intro w hSw; (try dsimp only at hSw); go_simp) <;> with_reducible rfl
  try simp only [Act.put, List.setIfInBounds_toArray, List.set_cons_zero, List.set_cons_succ]
  refine wpAnyH_ready (rs := [1, 3]) (by kernel_rfl) (by simp) ?_
  refine AllReadyH.cons (o := { dst := some 115, op := Op.call { callee := Callee.value (Operand.func 11), args := #[Operand.tmp 114], argTypes := #[23] }, type := 23, pos := "law.go:185", after := #[{ on := 0, ground := Ground.data }], guard := none }) rfl (fun K hK => ?_) (AllReadyH.cons (o := { dst := some 117, op := Op.buildSlice 23 1 #[(0, Operand.tmp 116)], type := 23, pos := "law.go:185", after := #[{ on := 2, ground := Ground.data }], guard := none }) rfl (fun K hK => ?_) AllReadyH.nil)
  · go_simp
    have B0 : Below V.heap.size V V.drew := below_drewN (Below.refl _ _) 1
    refine (copyIds_se _ f V.drew (hS.below B0) hlen).mono ?_
    rintro e wc ⟨v', rfl, ho, hB⟩
    have B1 : Below V.heap.size V wc := B0.trans hB
    clear hHeld
    refine hK.out _ _ ⟨cell_below B1 c0, cell_below B1 c1⟩ (fun hHeld => ?_)
    clear hK K
    refine wpAnyH_ready (rs := [3]) (by kernel_rfl) (by simp) ?_
    refine AllReadyH.cons (o := { dst := some 117, op := Op.buildSlice 23 1 #[(0, Operand.tmp 116)], type := 23, pos := "law.go:185", after := #[{ on := 2, ground := Ground.data }], guard := none }) rfl (fun K hK => ?_) AllReadyH.nil
    go_simp
    have B2 : Below wc.heap.size wc (wc.alloc (.cells (idCs x) 26)) := (Below.refl _ _).alloc (Nat.le_refl _) _
    clear hHeld
    refine hK.out _ _ ⟨cell_below (B1.trans (B2.mono B1.size)) c0, cell_below (B1.trans (B2.mono B1.size)) c1⟩ (fun hHeld => ?_)
    clear hK K
    refine wpAnyH_ready (rs := [4]) (by kernel_rfl) (by simp) ?_
    refine AllReadyH.cons (o := { dst := some 118, op := Op.call { callee := Callee.builtin Builtin.append, args := #[Operand.tmp 115, Operand.tmp 117], argTypes := #[23, 23] }, type := 23, pos := "law.go:185", after := #[{ on := 1, ground := Ground.data }, { on := 3, ground := Ground.data }, { on := 1, ground := Ground.chain }], guard := none }) rfl (fun K hK => ?_) AllReadyH.nil
    obtain ⟨wv, w', hr, ho2, hg⟩ := app_idL (x := x) 23 (owns_below ho B2) (heap_alloc_new wc _) (by omega) (B1.trans (B2.mono B1.size)).size
    have B3 : Below V.heap.size V w' := grown_below (w0 := V) (B1.trans (B2.mono B1.size)) (owns_below ho B2) hg
    rw [if_pos (by rfl)]
    refine Lib.wp_append_run_sl _ _ _ 23 (by rfl) _ _ (by rfl) (by rfl) hr ?_
    clear hHeld
    refine hK.out _ _ ⟨cell_below B3 c0, cell_below B3 c1⟩ (fun hHeld => ?_)
    try simp only [Act.put, List.setIfInBounds_toArray, List.set_cons_zero, List.set_cons_succ]
    clear hK K
    refine wpAnyH_take (i := 5) (oi := { dst := some 15, op := Op.assign (Operand.tmp 118), type := 23, pos := "law.go:185", after := #[{ on := 4, ground := Ground.data }, { on := 4, ground := Ground.chain }, { on := 0, ground := Ground.phase }, { on := 1, ground := Ground.phase }, { on := 2, ground := Ground.phase }, { on := 3, ground := Ground.phase }, { on := 4, ground := Ground.phase }], guard := none }) (v := ?_) rfl (by kernel_rfl) (by kernel_rfl) (by kernel_rfl) (fun _ _ _ h => hP _ _ _ _ _ h) (Or.inl ⟨by rfl, ?_⟩) (by assumption) ?_
    rotate_left
    · (intro w hSw; (try dsimp only at hSw); go_simp) <;> with_reducible rfl
    try simp only [Act.put, List.setIfInBounds_toArray, List.set_cons_zero, List.set_cons_succ]
    refine wpAnyH_done (by kernel_rfl) ?_ _
    exact hQ _ _ _ _ ho2 B3
  · go_simp
    have B0 : Below V.heap.size V V.drew := below_drewN (Below.refl _ _) 1
    have B2 : Below V.heap.size V (V.drew.alloc (.cells (idCs x) 26)) := B0.alloc B0.size _
    have hnew : (V.drew.alloc (.cells (idCs x) 26)).heap[V.drew.heap.size]? = some (.cells (idCs x) 26 (0, 0)) := heap_alloc_new _ _
    clear hHeld
    refine hK.out _ _ ⟨cell_below B2 c0, cell_below B2 c1⟩ (fun hHeld => ?_)
    clear hK K
    refine wpAnyH_ready (rs := [1]) (by kernel_rfl) (by simp) ?_
    refine AllReadyH.cons (o := { dst := some 115, op := Op.call { callee := Callee.value (Operand.func 11), args := #[Operand.tmp 114], argTypes := #[23] }, type := 23, pos := "law.go:185", after := #[{ on := 0, ground := Ground.data }], guard := none }) rfl (fun K hK => ?_) AllReadyH.nil
    go_simp
    refine (copyIds_se _ f _ (hS.below B2) hlen).mono ?_
    rintro e wc ⟨v', rfl, ho, hB⟩
    have B1 : Below V.heap.size V wc := B2.trans (hB.mono B2.size)
    have hnew2 : wc.heap[V.drew.heap.size]? = some (.cells (idCs x) 26 (0, 0)) := (hB.block _ (lt_of_block hnew)).trans hnew
    clear hHeld
    refine hK.out _ _ ⟨cell_below B1 c0, cell_below B1 c1⟩ (fun hHeld => ?_)
    clear hK K
    refine wpAnyH_ready (rs := [4]) (by kernel_rfl) (by simp) ?_
    refine AllReadyH.cons (o := { dst := some 118, op := Op.call { callee := Callee.builtin Builtin.append, args := #[Operand.tmp 115, Operand.tmp 117], argTypes := #[23, 23] }, type := 23, pos := "law.go:185", after := #[{ on := 1, ground := Ground.data }, { on := 3, ground := Ground.data }, { on := 1, ground := Ground.chain }], guard := none }) rfl (fun K hK => ?_) AllReadyH.nil
    obtain ⟨wv, w', hr, ho2, hg⟩ := app_idL (x := x) 23 (ownsR_base ho B2.size) hnew2 (by omega) B1.size
    have B3 : Below V.heap.size V w' := grown_below (w0 := V) B1 (ownsR_base ho B2.size) hg
    rw [if_pos (by rfl)]
    refine Lib.wp_append_run_sl _ _ _ 23 (by rfl) _ _ (by rfl) (by rfl) hr ?_
    clear hHeld
    refine hK.out _ _ ⟨cell_below B3 c0, cell_below B3 c1⟩ (fun hHeld => ?_)
    try simp only [Act.put, List.setIfInBounds_toArray, List.set_cons_zero, List.set_cons_succ]
    clear hK K
    refine wpAnyH_take (i := 5) (oi := { dst := some 15, op := Op.assign (Operand.tmp 118), type := 23, pos := "law.go:185", after := #[{ on := 4, ground := Ground.data }, { on := 4, ground := Ground.chain }, { on := 0, ground := Ground.phase }, { on := 1, ground := Ground.phase }, { on := 2, ground := Ground.phase }, { on := 3, ground := Ground.phase }, { on := 4, ground := Ground.phase }], guard := none }) (v := ?_) rfl (by kernel_rfl) (by kernel_rfl) (by kernel_rfl) (fun _ _ _ h => hP _ _ _ _ _ h) (Or.inl ⟨by rfl, ?_⟩) (by assumption) ?_
    rotate_left
    · (intro w hSw; (try dsimp only at hSw); go_simp) <;> with_reducible rfl
    try simp only [Act.put, List.setIfInBounds_toArray, List.set_cons_zero, List.set_cons_succ]
    refine wpAnyH_done (by kernel_rfl) ?_ _
    exact hQ _ _ _ _ ho2 B3

end Go.Proofs.YtapnaknbidmnmaaDoor
