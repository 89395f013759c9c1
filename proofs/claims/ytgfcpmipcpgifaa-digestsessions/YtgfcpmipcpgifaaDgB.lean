/- A session's number: digest.Session and lagoonref08.Session answer the number of its bytes. -/
import Derived.Test.YtgfcpmipcpgifaaDgA
namespace Go.Proofs.Ytgfcpmipcpgifaa
open Go.RowKit
set_option maxRecDepth 8000

/-- A session as a value. -/
def sesV (i t : Int) : Value := .agg #[.int .i64 i, .int .i32 t]
/-- Its bytes. -/
def sesB (i t : Int) : List Int := [2] ++ be8 (up64 i) ++ be4 (up32 t)

theorem be4_len (n : Int) : (be4 n).length = 4 := rfl
theorem be8_len (n : Int) : (be8 n).length = 8 := by simp [be8, be4_len]

/-- A Writer at g that came to w0 with the row v0 has the bytes xs, beside a block b with the object o. -/
def WS (w0 : World) (g : Nat) (v0 : Value) (b : Nat) (o : Obj) (xs : List Int) (v : Value) (w : World) : Prop :=
  IsW w g v xs ∧ b ≠ g ∧ v.ownBlock ≠ some b ∧ w.heap[b]? = some o ∧ NewRow w0 v0 v ∧ Kept w0 w (fun k => k = g ∨ v0.ownBlock = some k)

theorem WS.mk {w : World} {g : Nat} {v : Value} {xs : List Int} (h : IsW w g v xs) (o : Obj) : WS w g v w.heap.size o xs v (w.alloc o) := by
  have hg := lt_of_block h.1
  refine ⟨h.alloc o, by omega, ?_, heap_alloc_new w _, .inl rfl, (Kept.refl w _).alloc o⟩
  rcases h.2.2 with ⟨rfl, _⟩ | ⟨g', cap, cur, rfl, _, h2, _⟩
  · simp [Value.ownBlock]
  · have := lt_of_block h2
    simp [Value.ownBlock]
    omega

theorem WS.put {w0 : World} {g : Nat} {v0 : Value} {b : Nat} {o : Obj} {xs ys : List Int} {v : Value} {w w' : World} (h : WS w0 g v0 b o xs v w) (hp : Puts w g v ys w') : ∃ v', WS w0 g v0 b o ys v' w' := by
  obtain ⟨h1, h2, h3, h4, h5, h6⟩ := h
  have hn := Puts.next h5 h6 hp
  obtain ⟨v', k1, k2, k3⟩ := hp
  have hv' : v'.ownBlock ≠ some b := by
    rcases k2 with e | ⟨k, e, hk⟩
    · rw [e]; exact h3
    · rw [e]; intro e2; simp at e2; subst e2; have := lt_of_block h4; omega
  refine ⟨v', k1, h2, hv', k3.heap h4 ?_, ?_, h6.trans k3 ?_⟩
  · rintro (e | e)
    · exact h2 e
    · exact h3 e
  · rcases k2 with e | ⟨k, e, hk⟩
    · rcases h5 with e' | ⟨k', e', hk'⟩
      · exact .inl (e.trans e')
      · exact .inr ⟨k', e.trans e', hk'⟩
    · exact .inr ⟨k, e, by have := h6.size; omega⟩
  · intro k hk hs
    rcases hs with hs | hs
    · exact .inl hs
    · rcases h5 with e' | ⟨k', e', hk'⟩
      · exact .inr (by rw [← e']; exact hs)
      · rw [e'] at hs; simp at hs; omega

theorem WS.puts {w0 : World} {g : Nat} {v0 : Value} {b : Nat} {o : Obj} {xs : List Int} {v : Value} {w : World} (h : WS w0 g v0 b o xs v w) : Puts w0 g v0 xs w := ⟨v, h.1, h.2.2.2.2.1, h.2.2.2.2.2⟩

theorem WS.cell {w0 : World} {g : Nat} {v0 : Value} {b : Nat} {cs : Array Value} {t : TypeId} {xs : List Int} {v : Value} {w : World} (h : WS w0 g v0 b (.cells cs t (0, 0)) xs v w) (i : Nat) (u : Value) (hu : cs[i]? = some u) : w.cell? ⟨b, i, none⟩ = some u := by
  rw [cell_of_row w b i cs t (0, 0) h.2.2.2.1]
  exact hu

/-- A list v of bytes xs of one's own, beside a block b with the object o; all that w0 had stands. -/
def JS (w0 : World) (b : Nat) (o : Obj) (xs : List Int) (v : Value) (w : World) : Prop :=
  Owns w w0.heap.size v xs ∧ v.ownBlock ≠ some b ∧ w.heap[b]? = some o ∧ w0.heap.size ≤ b ∧ Below w0.heap.size w0 w

theorem own_lt {w : World} {base : Nat} {v : Value} {xs : List Int} (h : Owns w base v xs) {k : Nat} (e : v.ownBlock = some k) : k < w.heap.size := by
  rcases h.2 with ⟨rfl, _⟩ | ⟨g, cap, cur, rfl, _, h2, _⟩
  · simp [Value.ownBlock] at e
  · simp [Value.ownBlock] at e
    subst e
    exact lt_of_block h2

theorem own_ge {w : World} {base : Nat} {v : Value} {xs : List Int} (h : Owns w base v xs) {k : Nat} (e : v.ownBlock = some k) : base ≤ k := by
  rcases h.2 with ⟨rfl, _⟩ | ⟨g, cap, cur, rfl, h1, h2, _⟩
  · simp [Value.ownBlock] at e
  · simp [Value.ownBlock] at e
    subst e
    exact h1

theorem owns_zero {w : World} {base : Nat} {v : Value} {xs : List Int} (h : Owns w base v xs) : Owns w 0 v xs := owns_mono h (Nat.zero_le _)

/-- Behind a call that has made a list u. -/
theorem JS.made {w0 w w1 : World} {b : Nat} {o : Obj} {xs ys : List Int} {v u : Value} (h : JS w0 b o xs v w) (hu : Owns w1 w.heap.size u ys) (hb : Below w.heap.size w w1) :
    JS w0 b o xs v w1 ∧ ∀ k, u.ownBlock = some k → v.ownBlock ≠ some k := by
  obtain ⟨h1, h2, h3, h4, h5⟩ := h
  refine ⟨⟨Owns.kept h1 (Below.kept hb) (fun k hk hs => by have := own_lt h1 hk; omega), h2, ?_, h4, h5.trans (hb.mono h5.size)⟩, ?_⟩
  · rw [hb.block b (lt_of_block h3)]; exact h3
  · intro k hk hv
    have := own_lt h1 hv
    have := own_ge hu hk
    omega

/-- Behind the join. -/
theorem JS.join {w0 w w1 : World} {b : Nat} {o : Obj} {xs ys : List Int} {v v' : Value} (h : JS w0 b o xs v w) (hu : Owns w1 0 v' ys) (hn : NewRow w v v') (hk : Kept w w1 (fun k => v.ownBlock = some k)) :
    JS w0 b o ys v' w1 := by
  obtain ⟨h1, h2, h3, h4, h5⟩ := h
  have hge : ∀ k, v'.ownBlock = some k → w0.heap.size ≤ k := by
    intro k e
    rcases hn with e' | ⟨j, e', hj⟩
    · rw [e'] at e; exact own_ge h1 e
    · rw [e'] at e; simp at e; have := h5.size; omega
  refine ⟨owns_base hu hge, ?_, hk.heap h3 h2, h4, h5.trans (hk.below h5.size (fun k e => own_ge h1 e))⟩
  rcases hn with e' | ⟨j, e', hj⟩
  · rw [e']; exact h2
  · rw [e']; intro e; simp at e; have := lt_of_block h3; omega

theorem JS.cell {w0 w : World} {b : Nat} {cs : Array Value} {t : TypeId} {xs : List Int} {v : Value} (h : JS w0 b (.cells cs t (0, 0)) xs v w) (i : Nat) (u : Value) (hu : cs[i]? = some u) : w.cell? ⟨b, i, none⟩ = some u := by
  rw [cell_of_row w b i cs t (0, 0) h.2.2.1]
  exact hu

set_option maxHeartbeats 400000 in
theorem putSession_any (g : Nat) (v : Value) (xs : List Int) (i t : Int) (w : World) (h : IsW w g v xs) (hb : xs.length + 100 ≤ 140737488355328) :
    Calls Try.prog 6 #[.pointer (some ⟨g, 0, none⟩), sesV i t] w fun e w' => e = .returned (.tuple #[]) ∧ Puts w g v (xs ++ sesB i t) w' := by
  unfold sesV
  have HA : Hid (WS w g v w.heap.size (.cells #[.int .i64 i, .int .i32 t] 26 (0, 0)) xs v (w.alloc (.cells #[.int .i64 i, .int .i32 t] 26))) := WS.mk h _
  clear h
  go_enter Try.func6, Try.ntmps6
  go_wp2_with fail
  go_at_call 14
  refine (wInt8_any g v xs 2 _ HA.out.1 (by omega)).mono ?_
  rintro e w1 ⟨rfl, hp⟩
  obtain ⟨v1, hs1⟩ := WS.put HA.out hp
  have H1 : Hid _ := hs1
  have hc0 := hs1.cell 0 _ rfl
  clear hp HA hs1
  go_wp2_with fail
  go_at_call 15
  refine (wInt64_any g v1 _ i _ H1.out.1 (by simp; omega)).mono ?_
  rintro e w2 ⟨rfl, hp⟩
  obtain ⟨v2, hs2⟩ := WS.put H1.out hp
  have H2 : Hid _ := hs2
  have hc1 := hs2.cell 1 _ rfl
  clear hp H1 hs2 hc0
  go_wp2_with fail
  go_at_call 16
  refine (wInt32_any g v2 _ t _ H2.out.1 (by simp [be8_len]; omega)).mono ?_
  rintro e w3 ⟨rfl, hp⟩
  obtain ⟨v3, hs3⟩ := WS.put H2.out hp
  have H3 : Hid (Puts w g v (xs ++ sesB i t) w3) := by
    have := hs3.puts
    show Puts w g v (xs ++ sesB i t) w3
    simpa [sesB] using this
  clear hp H2 hs3 hc1
  go_wp2
  go_end0
  exact ⟨rfl, H3.out⟩

set_option maxHeartbeats 400000 in
theorem session_any (i t : Int) (w : World) :
    Calls Try.prog 4 #[sesV i t] w fun e w' => e = .returned (.int .u64 (fnv (sesB i t))) ∧ Below w.heap.size w w' := by
  have HI : Hid (IsW ((w.alloc (.cells #[.int .i64 i, .int .i32 t] 26)).alloc (.cells #[.slice none 0 0] 30)) (w.heap.size + 1) (.slice none 0 0) []) := by
    refine ⟨?_, World.ownsRow_nil _ _ _ _⟩
    have := heap_alloc_new (w.alloc (.cells #[.int .i64 i, .int .i32 t] 26)) (.cells #[.slice none 0 0] 30)
    simpa using this
  have HB : Hid (Below w.heap.size w ((w.alloc (.cells #[.int .i64 i, .int .i32 t] 26)).alloc (.cells #[.slice none 0 0] 30))) := ((Below.refl _ _).alloc (Nat.le_refl _) _).alloc (by simp) _
  have HY : Hid (Byts (sesB i t)) := by
    intro x hx
    simp [sesB, be8, be4, up64, up32] at hx
    omega
  unfold sesV
  go_enter Try.func4, Try.ntmps4
  go_wp2_with fail
  go_at_call 6
  refine (putSession_any (w.heap.size + 1) (.slice none 0 0) [] i t _ HI.out (by simp)).mono ?_
  rintro e w1 ⟨rfl, v1, hw1, hn1, hk1⟩
  have H1 : Hid (IsW w1 (w.heap.size + 1) v1 (sesB i t) ∧ Below w.heap.size w w1) := ⟨by simpa using hw1, HB.out.trans (hk1.below (by simp; omega) (by rintro k (rfl | e); omega; simp [Value.ownBlock] at e))⟩
  clear hw1 hn1 hk1 HI HB
  go_wp2_with fail
  go_at_call 8
  refine (wBytes_any (w.heap.size + 1) v1 (sesB i t) _ H1.out.1 (by simp [sesB, be8_len, be4_len])).mono ?_
  rintro e w2 ⟨v2, rfl, ho2, hb2⟩
  have H2 : Hid (Owns w2 w1.heap.size v2 (sesB i t) ∧ Below w.heap.size w w2) := ⟨ho2, H1.out.2.trans (hb2.mono H1.out.2.size)⟩
  clear ho2 hb2 H1
  go_wp2_with fail
  go_at_call 7
  refine (numberOf_any v2 (sesB i t) _ (Sees.own H2.out.1) HY.out).mono ?_
  rintro e w3 ⟨rfl, hb3⟩
  have H3 : Hid (Below w.heap.size w w3) := H2.out.2.trans (hb3.mono H2.out.2.size)
  clear hb3 H2
  go_wp2
  go_ret
  exact ⟨rfl, H3.out⟩

set_option maxHeartbeats 400000 in
theorem refSession_any (i t : Int) (w : World) (hi : -9223372036854775808 ≤ i ∧ i ≤ 9223372036854775807) (ht : -2147483648 ≤ t ∧ t ≤ 2147483647) :
    Calls Try.prog 5 #[sesV i t] w fun e w' => e = .returned (.int .u64 (fnv (sesB i t))) ∧ Below w.heap.size w w' := by
  have HY : Hid (Byts (sesB i t)) := by
    intro x hx
    simp [sesB, be8, be4, up64, up32] at hx
    omega
  unfold sesV
  go_enter Try.func5, Try.ntmps5
  go_wp2_with fail
  go_at_call 9
  refine (refInt8_any 2 _ (by omega) (by omega)).mono ?_
  rintro e w1 ⟨v1, rfl, ho1, hb1⟩
  have HJ : Hid (JS w w.heap.size (.cells #[.int .i64 i, .int .i32 t] 26 (0, 0)) [2] v1 w1) := by
    refine ⟨owns_mono ho1 (by simp), ?_, ?_, Nat.le_refl _, ((Below.refl _ _).alloc (Nat.le_refl _) _).trans (hb1.mono (by simp))⟩
    · intro e; have := own_ge ho1 e; simp at this; omega
    · rw [hb1.block _ (by simp)]; exact heap_alloc_new w _
  have hc0 := JS.cell HJ.out 0 _ rfl
  obtain ⟨a1, n1, c1, hv1⟩ := owns_shape ho1
  clear ho1 hb1
  subst hv1
  go_wp2_with fail
  go_at_call 11
  refine (refInt64_any i _ hi.1 hi.2).mono ?_
  rintro e w2 ⟨u2, rfl, ho2, hb2⟩
  have H2 : Hid (_ ∧ _) := JS.made HJ.out ho2 hb2
  have HO2 : Hid _ := ho2
  obtain ⟨a2, n2, c2, hv2⟩ := owns_shape ho2
  clear ho2 hb2 hc0 HJ
  subst hv2
  go_wp2_with fail
  go_at_call 10
  refine (join_any _ _ [2] (be8 (up64 i)) _ (owns_zero H2.out.1.1) (Sees.own HO2.out) H2.out.2 (by simp [be8_len])).mono ?_
  rintro e w3 ⟨v3, rfl, ho3, hn3, hk3⟩
  have H3 : Hid (JS w w.heap.size (.cells #[.int .i64 i, .int .i32 t] 26 (0, 0)) ([2] ++ be8 (up64 i)) v3 w3) := JS.join H2.out.1 ho3 hn3 hk3
  have hc1 := JS.cell H3.out 1 _ rfl
  obtain ⟨a3, n3, c3, hv3⟩ := owns_shape ho3
  clear ho3 hn3 hk3 H2 HO2
  subst hv3
  go_wp2_with fail
  go_at_call 12
  refine (refInt32_any t _ ht.1 ht.2).mono ?_
  rintro e w4 ⟨u4, rfl, ho4, hb4⟩
  have H4 : Hid (_ ∧ _) := JS.made H3.out ho4 hb4
  have HO4 : Hid _ := ho4
  obtain ⟨a4, n4, c4, hv4⟩ := owns_shape ho4
  clear ho4 hb4 hc1 H3
  subst hv4
  go_wp2_with fail
  go_at_call 10
  refine (join_any _ _ ([2] ++ be8 (up64 i)) (be4 (up32 t)) _ (owns_zero H4.out.1.1) (Sees.own HO4.out) H4.out.2 (by simp [be8_len, be4_len])).mono ?_
  rintro e w5 ⟨v5, rfl, ho5, hn5, hk5⟩
  have H5 : Hid (JS w w.heap.size (.cells #[.int .i64 i, .int .i32 t] 26 (0, 0)) (sesB i t) v5 w5) := JS.join H4.out.1 ho5 hn5 hk5
  obtain ⟨a5, n5, c5, hv5⟩ := owns_shape ho5
  clear ho5 hn5 hk5 H4 HO4
  subst hv5
  go_wp2_with fail
  go_at_call 13
  refine (refNumber_any _ (sesB i t) _ (Sees.own H5.out.1) HY.out).mono ?_
  rintro e w6 ⟨rfl, rfl⟩
  go_wp2
  go_ret
  exact ⟨rfl, H5.out.2.2.2.2⟩
end Go.Proofs.Ytgfcpmipcpgifaa
