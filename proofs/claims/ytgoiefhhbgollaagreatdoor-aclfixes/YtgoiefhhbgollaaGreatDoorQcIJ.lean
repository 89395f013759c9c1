/- What acl's isFixed, granted and Allows answer. -/
import Derived.Test.YtgoiefhhbgollaaGreatDoorQcGJ
namespace Go.Proofs.YtgoiefhhbgollaaGreatDoor
open Go.RowKit Go.Shelf
set_option maxRecDepth 8000

set_option maxHeartbeats 1000000 in
theorem isFixed_any (v : Value) (l : List EnT) (w : World) (h : SE w v l) (hlen : l.length ≤ 1000) (hsz : ∀ x ∈ l, x.2.2.size ≤ 4294967296) : Calls Tryz.prog 50 #[v] w fun e w' => e = .returned (.bool (fxLs l)) ∧ Below w.heap.size w w' := by
  have HC : Hid (Calls Tryz.prog 23 #[v] w fun e w' => e = .returned (erV (enLs l)) ∧ Below w.heap.size w w') := aclCheck v l w h hsz
  have HA : Hid (∀ V : World, Below w.heap.size w V → Calls Tryz.prog 27 #[v] V fun e w' => e = .returned (.bool (l.any isAu)) ∧ Hid (Below w.heap.size w w')) := fun V hV => (hasAuth_any v l V (h.below hV) hlen).mono (fun e w' hh => ⟨hh.1, hV.trans (hh.2.mono hV.size)⟩)
  obtain ⟨ao, cap, rfl, _, _⟩ := h
  generalize hf : fxLs l = bf
  unfold fxLs at hf
  generalize enLs l = b1 at HC hf
  generalize l.any isAu = b2 at HA hf
  cases b1
  · have hf' : bf = false := by rw [← hf]; rfl
    subst hf'
    clear hf
    go_enter Tryz.func50, Tryz.ntmps50
    go_wp2_with (go_at_call 23; refine (HC.out).mono ?_; rintro e w1 ⟨rfl, hB⟩)
    all_goals (go_ret; exact ⟨rfl, hB⟩)
  · by_cases h0 : 0 < l.length
    · have d0 : decide (0 < (l.length : Int)) = true := by simp; omega
      have hf' : bf = !b2 := by rw [← hf, decide_eq_true h0]; rfl
      subst hf'
      clear hf
      go_enter Tryz.func50, Tryz.ntmps50
      go_wp2_with fail
      go_at_call 23
      refine (HC.out).mono ?_
      rintro e w1 ⟨rfl, hB⟩
      have HA1 : Hid (Calls Tryz.prog 27 #[.slice ao l.length cap] w1 fun e w' => e = .returned (.bool b2) ∧ Hid (Below w.heap.size w w')) := HA.out w1 hB
      clear hB
      go_wp2_with fail
      go_at_call 27
      refine (HA1.out).mono ?_
      rintro e w2 ⟨rfl, HB⟩
      go_wp2
      all_goals (go_ret; exact ⟨rfl, HB.out⟩)
    · have d0 : decide (0 < (l.length : Int)) = false := decide_eq_false (by omega)
      have hf' : bf = false := by rw [← hf, decide_eq_false h0]; rfl
      subst hf'
      clear hf
      go_enter Tryz.func50, Tryz.ntmps50
      go_wp2_with (go_at_call 23; refine (HC.out).mono ?_; rintro e w1 ⟨rfl, hB⟩)
      all_goals (go_ret; exact ⟨rfl, hB⟩)

theorem results_ev (tm : Array Value) (n : Nat) (WW : World) {a b : Value} (h2 : tm.getD 0 undef = .pointer (some ⟨n, 0, none⟩)) (m0 : WW.cell? ⟨n, 0, none⟩ = some a) (m1 : WW.cell? ⟨n, 1, none⟩ = some b) :
    (results Tryz.f25 tm).run Tryz.prog WW = .ok (.agg #[a, b]) WW := by
  have hres : Tryz.f25.results = #[.cell 0 37] := by kernel_rfl
  have h2' : tm[0]?.getD undef = .pointer (some ⟨n, 0, none⟩) := by rw [← Array.getD_eq_getD_getElem?]; exact h2
  simp only [results, hres]
  go_simp

theorem everybody_any (w : World) : Calls Tryz.prog 25 #[] w fun e w' => e = .returned (.agg #[.string worldB, .string anyB]) ∧ Below w.heap.size w w' := by
  go_enter Tryz.func25, Tryz.ntmps25
  go_wp2
  refine bodyPost_ret (results_ev _ w.heap.size _ rfl (cell_of_row _ w.heap.size 0 _ _ _ (heap_alloc_new _ _)) (cell_of_row _ w.heap.size 1 _ _ _ (heap_alloc_new _ _))) rfl ?_
  exact ⟨rfl, (Below.refl _ w).alloc (Nat.le_refl _) _⟩

theorem ifW {a b : ByteArray} {bw : Bool} (h : idEq (a, b) (worldB, anyB) = bw) (w : World) : (if a.toList = [119, 111, 114, 108, 100] then if b.toList = [97, 110, 121, 111, 110, 101] then Result.ok (Next.value (Value.bool true)) w else Result.ok (Next.value (Value.bool false)) w else Result.ok (Next.value (Value.bool false)) w) = Result.ok (Next.value (Value.bool bw)) w := by
  have e1 : worldB.toList = [119, 111, 114, 108, 100] := listB worldB
  have e2 : anyB.toList = [97, 110, 121, 111, 110, 101] := listB anyB
  rw [← h]
  unfold idEq
  simp only
  rw [e1, e2]
  by_cases h1 : a.toList = [119, 111, 114, 108, 100] <;> by_cases h2 : b.toList = [97, 110, 121, 111, 110, 101] <;> simp [h1, h2]

/-- Is an entry met by one of these ids? -/
def hit (who : List IdT) (x : EnT) : Bool := idEq (x.2.1, x.2.2) (worldB, anyB) || who.any (fun y => metD x.2.1.data.toList x.2.2.data.toList y.1.data.toList y.2.data.toList)
/-- All that a list gives. -/
def grI (who : List IdT) (l : List EnT) : Int := l.foldl (fun p x => if hit who x then bits .or .i8 p x.1 else p) 0

theorem grI_step {who : List IdT} {l : List EnT} {i : Nat} {x : EnT} (h : l[i]? = some x) : grI who (l.take (i + 1)) = if hit who x then bits .or .i8 (grI who (l.take i)) x.1 else grI who (l.take i) := by
  unfold grI
  rw [List.take_add_one, h, List.foldl_append]
  rfl

set_option maxHeartbeats 2000000 in
theorem granted_any (v u : Value) (l : List EnT) (who : List IdT) (w : World) (h : SE w v l) (g : SI w u who) (hlen : l.length ≤ 1000) (glen : who.length ≤ 1000) (hsz : ∀ x ∈ l, x.2.2.size ≤ 4294967296) (gsz : ∀ x ∈ who, x.2.size ≤ 4294967296) : Calls Tryz.prog 52 #[v, u] w fun e w' => e = .returned (.int .i8 (grI who l)) ∧ Below w.heap.size w w' := by
  obtain ⟨ao, cap, rfl, hcap, hc⟩ := h
  have HC0 : Hid (l ≠ [] → ∃ b off, ao = some ⟨b, off, none⟩ ∧ ∀ i x, l[i]? = some x → w.cell? ⟨b, off + i * 3, none⟩ = some (.int .i8 x.1) ∧ w.cell? ⟨b, off + i * 3 + 1, none⟩ = some (.string x.2.1) ∧ w.cell? ⟨b, off + i * 3 + 2, none⟩ = some (.string x.2.2)) := hc
  have HZ : Hid ((∀ x ∈ l, x.2.2.size ≤ 4294967296) ∧ (∀ x ∈ who, x.2.size ≤ 4294967296) ∧ SI w u who ∧ who.length ≤ 1000) := ⟨hsz, gsz, g, glen⟩
  have hmf : ∀ (fn : Fn) (first cap : Array Value) (w : World), (Instr.makeFunc fn first cap).run Tryz.prog w = .ok (.func fn first cap) w := fun _ _ _ _ => rfl
  clear hc hsz gsz g glen
  go_enter Tryz.func52, Tryz.ntmps52
  go_wp2
  go_loopw [5, 11] (fun vp vi wr => ∃ i : Nat, i ≤ l.length ∧ vi = .int .i64 (i : Int) ∧ vp = .int .i8 (grI who (l.take i)) ∧ Hid (Below w.heap.size w wr)) (fun _ vi _ => l.length - (intOf vi).toNat)
  case atStart => exact ⟨0, by omega, rfl, rfl, Below.refl _ _⟩
  case round =>
    obtain ⟨i, hi, rfl, rfl, HW⟩ := hrel
    by_cases hlt : i < l.length
    · have hd : decide ((i : Int) < (l.length : Int)) = true := by simp; omega
      obtain ⟨b, off, hao, hcx⟩ := HC0.out (fun e => by rw [e] at hlt; simp at hlt)
      obtain ⟨x, hx⟩ : ∃ x, l[i]? = some x := ⟨_, List.getElem?_eq_getElem hlt⟩
      obtain ⟨k0, k1, k2⟩ := hcx i x hx
      have l0 := cell_below HW.out k0
      have l1 := cell_below HW.out k1
      have l2 := cell_below HW.out k2
      have hBa : Below wr.heap.size wr (wr.alloc (.cells (enCs x) 39)) := (Below.refl _ _).alloc (Nat.le_refl _) _
      have hBd : Below w.heap.size w (wr.alloc (.cells (enCs x) 39)).drew := by
        have := HW.out.trans (hBa.mono HW.out.size)
        exact ⟨this.os, this.tape, this.output, this.size, this.block⟩
      have HS0 : Hid (HoldE wr.heap.size x (wr.alloc (.cells (enCs x) 39)).drew ∧ Below w.heap.size w (wr.alloc (.cells (enCs x) 39)).drew) := ⟨heap_alloc_new _ _, hBd⟩
      have HP : Hid (∀ V : World, HoldE wr.heap.size x V → V.cell? ⟨wr.heap.size, 0, none⟩ = some (.int .i8 x.1) ∧ V.cell? ⟨wr.heap.size, 1, none⟩ = some (.string x.2.1) ∧ V.cell? ⟨wr.heap.size, 2, none⟩ = some (.string x.2.2)) := fun V hV => ⟨cell_of_row V wr.heap.size 0 _ _ _ hV, cell_of_row V wr.heap.size 1 _ _ _ hV, cell_of_row V wr.heap.size 2 _ _ _ hV⟩
      have HEv : Hid (∀ V : World, HoldE wr.heap.size x V ∧ Below w.heap.size w V → Calls Tryz.prog 25 #[] V fun e w' => e = .returned (.agg #[.string worldB, .string anyB]) ∧ Hid (HoldE wr.heap.size x w' ∧ Below w.heap.size w w')) := fun V hV =>
        (everybody_any V).mono (fun e w' hh => ⟨hh.1, (hh.2.block _ (lt_of_block hV.1)).trans hV.1, hV.2.trans (hh.2.mono hV.2.size)⟩)
      obtain ⟨ba, hba⟩ : ∃ ba, ba = who.any (fun y => metD x.2.1.data.toList x.2.2.data.toList y.1.data.toList y.2.data.toList) := ⟨_, rfl⟩
      obtain ⟨bw, hbw⟩ : ∃ bw, idEq (x.2.1, x.2.2) (worldB, anyB) = bw := ⟨_, rfl⟩
      have HCf : Hid (∀ V : World, HoldE wr.heap.size x V ∧ Below w.heap.size w V → Calls Tryz.prog 88 #[u, .func (.func 86) #[] #[.pointer (some ⟨wr.heap.size, 0, none⟩)]] V fun e w' => e = .returned (.bool ba) ∧ Hid (HoldE wr.heap.size x w' ∧ Below w.heap.size w w')) := fun V hV => by
        rw [hba]
        exact (containsFI wr.heap.size x (HZ.out.1 x (List.mem_of_getElem? hx)) u who V (HZ.out.2.2.1.below hV.2) HZ.out.2.2.2 HZ.out.2.1 hV.1).mono (fun e w' hh => ⟨hh.1, (hh.2.block _ (lt_of_block hV.1)).trans hV.1, hV.2.trans (hh.2.mono hV.2.size)⟩)
      have HBW : Hid (idEq (x.2.1, x.2.2) (worldB, anyB) = bw) := hbw
      have HHit : Hid (hit who x = (bw || ba)) := by show _ = _; unfold hit; rw [hbw, ← hba]
      have HG : Hid (grI who (l.take (i + 1)) = if hit who x then bits .or .i8 (grI who (l.take i)) x.1 else grI who (l.take i)) := grI_step hx
      generalize grI who (l.take i) = gp at *
      subst hao
      clear hcx hx hBa hBd hba hbw k0 k1 k2
      cases bw
      · go_wp2_with fail
        refine wp_region_held_drew (S := fun w' => w'.cell? ⟨wr.heap.size, 0, none⟩ = some (.int .i8 x.1) ∧ w'.cell? ⟨wr.heap.size, 1, none⟩ = some (.string x.2.1) ∧ w'.cell? ⟨wr.heap.size, 2, none⟩ = some (.string x.2.2)) (by kernel_rfl) ?_ (fun hHeld => ?_)
        · exact HP.out _ HS0.out.1
        refine wpAnyH_take (i := 0) (oi := { dst := some 16, op := Op.fieldAddr 39 (Operand.tmp 7) 1, type := 0, pos := "acl.go:119", after := #[], guard := none }) (v := ?_) rfl (by kernel_rfl) (by kernel_rfl) (by kernel_rfl) (fun _ _ _ h => h) (Or.inl ⟨by rfl, ?_⟩) (by assumption) ?_
        rotate_left
        · (intro w hSw; (try dsimp only at hSw); go_simp) <;> with_reducible rfl
        try simp only [Act.put, List.setIfInBounds_toArray, List.set_cons_zero, List.set_cons_succ]
        refine wpAnyH_take (i := 1) (oi := { dst := some 17, op := Op.load 37 (Operand.tmp 16), type := 37, pos := "acl.go:119", after := #[{ on := 0, ground := Ground.data }], guard := none }) (v := ?_) rfl (by kernel_rfl) (by kernel_rfl) (by kernel_rfl) (fun _ _ _ h => h) (Or.inl ⟨by rfl, ?_⟩) (by assumption) ?_
        rotate_left
        · (intro w hSw; (try dsimp only at hSw); go_simp) <;> with_reducible rfl
        try simp only [Act.put, List.setIfInBounds_toArray, List.set_cons_zero, List.set_cons_succ]
        refine wpAnyH_ready (rs := [2]) (by kernel_rfl) (by simp) ?_
        refine AllReadyH.cons (o := { dst := some 18, op := Op.call { callee := Callee.value (Operand.func 25), args := #[], argTypes := #[] }, type := 37, pos := "acl.go:119", after := #[], guard := none }) rfl (fun K hK => ?_) AllReadyH.nil
        go_simp
        refine (HEv.out _ HS0.out).mono ?_
        rintro e wx ⟨rfl, HS1⟩
        clear hHeld
        refine hK.out _ _ (HP.out _ HS1.out.1) (fun hHeld => ?_)
        clear hK K
        refine wpAnyH_take (i := 3) (oi := { dst := some 19, op := Op.binOp BinOp.eql 37 (Operand.tmp 17) (Operand.tmp 18) 37, type := 4, pos := "acl.go:119", after := #[{ on := 1, ground := Ground.data }, { on := 2, ground := Ground.data }], guard := none }) (v := ?_) rfl (by kernel_rfl) (by kernel_rfl) (by kernel_rfl) (fun _ _ _ h => h) (Or.inl ⟨by rfl, ?_⟩) (by assumption) ?_
        rotate_left
        · (intro w hSw; (try dsimp only at hSw); go_simp; exact ifW HBW.out w)
        try simp only [Act.put, List.setIfInBounds_toArray, List.set_cons_zero, List.set_cons_succ]
        refine wpAnyH_take (i := 4) (oi := { dst := some 20, op := Op.move (Operand.tmp 19), type := 4, pos := "acl.go:119", after := #[{ on := 3, ground := Ground.data }, { on := 2, ground := Ground.chain }], guard := none }) (v := ?_) rfl (by kernel_rfl) (by kernel_rfl) (by kernel_rfl) (fun _ _ _ h => h) (Or.inl ⟨by rfl, ?_⟩) (by assumption) ?_
        rotate_left
        · (intro w hSw; (try dsimp only at hSw); go_simp) <;> with_reducible rfl
        try simp only [Act.put, List.setIfInBounds_toArray, List.set_cons_zero, List.set_cons_succ]
        refine wpAnyH_take (i := 5) (oi := { dst := some 21, op := Op.move (Operand.tmp 1), type := 23, pos := "acl.go:119", after := #[{ on := 4, ground := Ground.guard }], guard := some (4, false) }) (v := ?_) rfl (by kernel_rfl) (by kernel_rfl) (by kernel_rfl) (fun _ _ _ h => h) (Or.inl ⟨by rfl, ?_⟩) (by assumption) ?_
        rotate_left
        · (intro w hSw; (try dsimp only at hSw); go_simp) <;> with_reducible rfl
        try simp only [Act.put, List.setIfInBounds_toArray, List.set_cons_zero, List.set_cons_succ]
        refine wpAnyH_take (i := 6) (oi := { dst := some 22, op := Op.move (Operand.tmp 8), type := 96, pos := "acl.go:119", after := #[{ on := 4, ground := Ground.guard }], guard := some (4, false) }) (v := ?_) rfl (by kernel_rfl) (by kernel_rfl) (by kernel_rfl) (fun _ _ _ h => h) (Or.inl ⟨by rfl, ?_⟩) (by assumption) ?_
        rotate_left
        · (intro w hSw; (try dsimp only at hSw); go_simp) <;> with_reducible rfl
        try simp only [Act.put, List.setIfInBounds_toArray, List.set_cons_zero, List.set_cons_succ]
        refine wpAnyH_ready (rs := [7]) (by kernel_rfl) (by simp) ?_
        refine AllReadyH.cons (o := { dst := some 23, op := Op.call { callee := Callee.value (Operand.func 88), args := #[Operand.tmp 21, Operand.tmp 22], argTypes := #[23, 96] }, type := 4, pos := "acl.go:119", after := #[{ on := 5, ground := Ground.data }, { on := 6, ground := Ground.data }, { on := 4, ground := Ground.chain }, { on := 4, ground := Ground.guard }], guard := some (4, false) }) rfl (fun K hK => ?_) AllReadyH.nil
        go_simp
        refine (HCf.out _ HS1.out).mono ?_
        rintro e wy ⟨rfl, HS2⟩
        clear hHeld
        refine hK.out _ _ (HP.out _ HS2.out.1) (fun hHeld => ?_)
        clear hK K
        refine wpAnyH_take (i := 8) (oi := { dst := some 24, op := Op.pick (Operand.tmp 20) (Operand.const (Value.bool true)) (Operand.tmp 23), type := 4, pos := "acl.go:119", after := #[{ on := 4, ground := Ground.data }, { on := 7, ground := Ground.data }], guard := none }) (v := ?_) rfl (by kernel_rfl) (by kernel_rfl) (by kernel_rfl) (fun _ _ _ h => h) (Or.inl ⟨by rfl, ?_⟩) (by assumption) ?_
        rotate_left
        · (intro w hSw; (try dsimp only at hSw); go_simp) <;> with_reducible rfl
        try simp only [Act.put, List.setIfInBounds_toArray, List.set_cons_zero, List.set_cons_succ]
        refine wpAnyH_done (by kernel_rfl) ?_ _
        cases ba
        · have HG2 : Hid (grI who (l.take (i + 1)) = gp) := by rw [HG.out, HHit.out]; rfl
          go_wp2
          go_roundw
          case rel => exact ⟨i + 1, by omega, by simp, by rw [HG2.out], HS2.out.2⟩
          case measure => simp [intOf]; omega
        · have HG2 : Hid (grI who (l.take (i + 1)) = bits .or .i8 gp x.1) := by rw [HG.out, HHit.out]; rfl
          obtain ⟨m0, m1, m2⟩ := HP.out _ HS2.out.1
          go_wp2
          go_roundw
          case rel => exact ⟨i + 1, by omega, by simp, by rw [HG2.out], HS2.out.2⟩
          case measure => simp [intOf]; omega
      · have HG2 : Hid (grI who (l.take (i + 1)) = bits .or .i8 gp x.1) := by rw [HG.out, HHit.out]; rfl
        go_wp2_with fail
        refine wp_region_held_drew (S := fun w' => w'.cell? ⟨wr.heap.size, 0, none⟩ = some (.int .i8 x.1) ∧ w'.cell? ⟨wr.heap.size, 1, none⟩ = some (.string x.2.1) ∧ w'.cell? ⟨wr.heap.size, 2, none⟩ = some (.string x.2.2)) (by kernel_rfl) ?_ (fun hHeld => ?_)
        · exact HP.out _ HS0.out.1
        refine wpAnyH_take (i := 0) (oi := { dst := some 16, op := Op.fieldAddr 39 (Operand.tmp 7) 1, type := 0, pos := "acl.go:119", after := #[], guard := none }) (v := ?_) rfl (by kernel_rfl) (by kernel_rfl) (by kernel_rfl) (fun _ _ _ h => h) (Or.inl ⟨by rfl, ?_⟩) (by assumption) ?_
        rotate_left
        · (intro w hSw; (try dsimp only at hSw); go_simp) <;> with_reducible rfl
        try simp only [Act.put, List.setIfInBounds_toArray, List.set_cons_zero, List.set_cons_succ]
        refine wpAnyH_take (i := 1) (oi := { dst := some 17, op := Op.load 37 (Operand.tmp 16), type := 37, pos := "acl.go:119", after := #[{ on := 0, ground := Ground.data }], guard := none }) (v := ?_) rfl (by kernel_rfl) (by kernel_rfl) (by kernel_rfl) (fun _ _ _ h => h) (Or.inl ⟨by rfl, ?_⟩) (by assumption) ?_
        rotate_left
        · (intro w hSw; (try dsimp only at hSw); go_simp) <;> with_reducible rfl
        try simp only [Act.put, List.setIfInBounds_toArray, List.set_cons_zero, List.set_cons_succ]
        refine wpAnyH_ready (rs := [2]) (by kernel_rfl) (by simp) ?_
        refine AllReadyH.cons (o := { dst := some 18, op := Op.call { callee := Callee.value (Operand.func 25), args := #[], argTypes := #[] }, type := 37, pos := "acl.go:119", after := #[], guard := none }) rfl (fun K hK => ?_) AllReadyH.nil
        go_simp
        refine (HEv.out _ HS0.out).mono ?_
        rintro e wx ⟨rfl, HS1⟩
        clear hHeld
        refine hK.out _ _ (HP.out _ HS1.out.1) (fun hHeld => ?_)
        clear hK K
        refine wpAnyH_take (i := 3) (oi := { dst := some 19, op := Op.binOp BinOp.eql 37 (Operand.tmp 17) (Operand.tmp 18) 37, type := 4, pos := "acl.go:119", after := #[{ on := 1, ground := Ground.data }, { on := 2, ground := Ground.data }], guard := none }) (v := ?_) rfl (by kernel_rfl) (by kernel_rfl) (by kernel_rfl) (fun _ _ _ h => h) (Or.inl ⟨by rfl, ?_⟩) (by assumption) ?_
        rotate_left
        · (intro w hSw; (try dsimp only at hSw); go_simp; exact ifW HBW.out w)
        try simp only [Act.put, List.setIfInBounds_toArray, List.set_cons_zero, List.set_cons_succ]
        refine wpAnyH_take (i := 4) (oi := { dst := some 20, op := Op.move (Operand.tmp 19), type := 4, pos := "acl.go:119", after := #[{ on := 3, ground := Ground.data }, { on := 2, ground := Ground.chain }], guard := none }) (v := ?_) rfl (by kernel_rfl) (by kernel_rfl) (by kernel_rfl) (fun _ _ _ h => h) (Or.inl ⟨by rfl, ?_⟩) (by assumption) ?_
        rotate_left
        · (intro w hSw; (try dsimp only at hSw); go_simp) <;> with_reducible rfl
        try simp only [Act.put, List.setIfInBounds_toArray, List.set_cons_zero, List.set_cons_succ]
        refine wpAnyH_take (i := 5) (oi := { dst := some 21, op := Op.move (Operand.tmp 1), type := 23, pos := "acl.go:119", after := #[{ on := 4, ground := Ground.guard }], guard := some (4, false) }) (v := undef) rfl (by kernel_rfl) (by kernel_rfl) (by kernel_rfl) (fun _ _ _ h => h) (Or.inr ⟨by rfl, rfl⟩) (by assumption) ?_
        try simp only [Act.put, List.setIfInBounds_toArray, List.set_cons_zero, List.set_cons_succ]
        refine wpAnyH_take (i := 6) (oi := { dst := some 22, op := Op.move (Operand.tmp 8), type := 96, pos := "acl.go:119", after := #[{ on := 4, ground := Ground.guard }], guard := some (4, false) }) (v := undef) rfl (by kernel_rfl) (by kernel_rfl) (by kernel_rfl) (fun _ _ _ h => h) (Or.inr ⟨by rfl, rfl⟩) (by assumption) ?_
        try simp only [Act.put, List.setIfInBounds_toArray, List.set_cons_zero, List.set_cons_succ]
        refine wpAnyH_ready (rs := [7]) (by kernel_rfl) (by simp) ?_
        refine AllReadyH.cons (o := { dst := some 23, op := Op.call { callee := Callee.value (Operand.func 88), args := #[Operand.tmp 21, Operand.tmp 22], argTypes := #[23, 96] }, type := 4, pos := "acl.go:119", after := #[{ on := 5, ground := Ground.data }, { on := 6, ground := Ground.data }, { on := 4, ground := Ground.chain }, { on := 4, ground := Ground.guard }], guard := some (4, false) }) rfl (fun K hK => ?_) AllReadyH.nil
        go_simp
        refine hK.out _ _ (by assumption) (fun _ => ?_)
        clear hK K
        refine wpAnyH_take (i := 8) (oi := { dst := some 24, op := Op.pick (Operand.tmp 20) (Operand.const (Value.bool true)) (Operand.tmp 23), type := 4, pos := "acl.go:119", after := #[{ on := 4, ground := Ground.data }, { on := 7, ground := Ground.data }], guard := none }) (v := ?_) rfl (by kernel_rfl) (by kernel_rfl) (by kernel_rfl) (fun _ _ _ h => h) (Or.inl ⟨by rfl, ?_⟩) (by assumption) ?_
        rotate_left
        · (intro w hSw; (try dsimp only at hSw); go_simp) <;> with_reducible rfl
        try simp only [Act.put, List.setIfInBounds_toArray, List.set_cons_zero, List.set_cons_succ]
        refine wpAnyH_done (by kernel_rfl) ?_ _
        obtain ⟨m0, m1, m2⟩ := HP.out _ HS1.out.1
        go_wp2
        go_roundw
        case rel => exact ⟨i + 1, by omega, by simp, by rw [HG2.out], HS1.out.2⟩
        case measure => simp [intOf]; omega
    · have hd : decide ((i : Int) < (l.length : Int)) = false := by simp; omega
      have HE : Hid (grI who (l.take i) = grI who l) := by rw [List.take_of_length_le (by omega)]; rfl
      go_wp2
      all_goals (go_ret; exact ⟨by rw [← HE.out]; rfl, HW.out⟩)

end Go.Proofs.YtgoiefhhbgollaaGreatDoor

/- What acl's Allows answers, for every list, all permissions and every client. -/
namespace Go.Proofs.YtgoiefhhbgollaaGreatDoor
open Go.RowKit Go.Shelf
set_option maxRecDepth 8000

/-- What a list allows. -/
def alB (l : List EnT) (p : Int) (who : List IdT) : Bool := fxLs l && decide (0 ≤ p ∧ p ≤ 31) && idLs who && (bits .andNot .i8 p (grI who l) == 0)

set_option maxHeartbeats 1000000 in
theorem allows_any (v u : Value) (l : List EnT) (p : Int) (who : List IdT) (w : World) (h : SE w v l) (g : SI w u who) (hlen : l.length ≤ 1000) (glen : who.length ≤ 1000) (hsz : ∀ x ∈ l, x.2.2.size ≤ 4294967296) (gsz : ∀ x ∈ who, x.2.size ≤ 4294967296) : Calls Tryz.prog 18 #[v, .int .i8 p, u] w fun e w' => e = .returned (.bool (alB l p who)) ∧ Below w.heap.size w w' := by
  have HF : Hid (Calls Tryz.prog 50 #[v] w fun e w' => e = .returned (.bool (fxLs l)) ∧ Below w.heap.size w w') := isFixed_any v l w h hlen hsz
  have HP : Hid (∀ V : World, Calls Tryz.prog 51 #[.int .i8 p] V fun e w' => e = .returned (.bool (decide (0 ≤ p ∧ p ≤ 31))) ∧ w' = V) := isPerms_any p
  have HC : Hid (∀ V : World, Below w.heap.size w V → Calls Tryz.prog 24 #[u] V fun e w' => e = .returned (erV (idLs who)) ∧ Below w.heap.size w w') := fun V hV => (aclCheckIds u who V (g.below hV) gsz).mono (fun e w' hh => ⟨hh.1, hV.trans (hh.2.mono hV.size)⟩)
  have HG : Hid (∀ V : World, Below w.heap.size w V → Calls Tryz.prog 52 #[v, u] V fun e w' => e = .returned (.int .i8 (grI who l)) ∧ Hid (Below w.heap.size w w')) := fun V hV => (granted_any v u l who V (h.below hV) (g.below hV) hlen glen hsz gsz).mono (fun e w' hh => ⟨hh.1, hV.trans (hh.2.mono hV.size)⟩)
  generalize ha : alB l p who = ba
  unfold alB at ha
  generalize fxLs l = b1 at HF ha
  generalize decide (0 ≤ p ∧ p ≤ 31) = b2 at HP ha
  generalize idLs who = b3 at HC ha
  generalize grI who l = gr at HG ha
  clear h g hlen glen hsz gsz
  cases b1
  · have ha' : ba = false := by rw [← ha]; rfl
    subst ha'
    clear ha
    go_enter Tryz.func18, Tryz.ntmps18
    go_wp2_with (go_at_call 50; refine (HF.out).mono ?_; rintro e w1 ⟨rfl, hB⟩)
    all_goals (go_ret; exact ⟨rfl, hB⟩)
  cases b2
  · have ha' : ba = false := by rw [← ha]; rfl
    subst ha'
    clear ha
    go_enter Tryz.func18, Tryz.ntmps18
    go_wp2_with fail
    go_at_call 50
    refine (HF.out).mono ?_
    rintro e w1 ⟨rfl, hB⟩
    go_wp2_with (go_at_call 51; refine (HP.out _).mono ?_; rintro e w2 ⟨rfl, rfl⟩)
    all_goals (go_ret; exact ⟨rfl, hB⟩)
  cases b3
  · have ha' : ba = false := by rw [← ha]; rfl
    subst ha'
    clear ha
    go_enter Tryz.func18, Tryz.ntmps18
    go_wp2_with fail
    go_at_call 50
    refine (HF.out).mono ?_
    rintro e w1 ⟨rfl, hB⟩
    have HC1 : Hid (Calls Tryz.prog 24 #[u] w1 fun e w' => e = .returned (erV false) ∧ Below w.heap.size w w') := HC.out w1 hB
    clear hB
    go_wp2_with fail
    go_at_call 51
    refine (HP.out _).mono ?_
    rintro e w2 ⟨rfl, rfl⟩
    go_wp2_with (go_at_call 24; refine (HC1.out).mono ?_; rintro e w3 ⟨rfl, hB⟩)
    all_goals (go_ret; exact ⟨rfl, hB⟩)
  · have HA : Hid (ba = (bits .andNot .i8 p gr == 0)) := by show _ = _; rw [← ha]; rfl
    clear ha
    go_enter Tryz.func18, Tryz.ntmps18
    go_wp2_with fail
    go_at_call 50
    refine (HF.out).mono ?_
    rintro e w1 ⟨rfl, hB⟩
    have HC1 : Hid (Calls Tryz.prog 24 #[u] w1 fun e w' => e = .returned (erV true) ∧ Below w.heap.size w w') := HC.out w1 hB
    clear hB
    go_wp2_with fail
    go_at_call 51
    refine (HP.out _).mono ?_
    rintro e w2 ⟨rfl, rfl⟩
    go_wp2_with fail
    go_at_call 24
    refine (HC1.out).mono ?_
    rintro e w3 ⟨rfl, hB⟩
    have HG1 : Hid (Calls Tryz.prog 52 #[v, u] w3 fun e w' => e = .returned (.int .i8 gr) ∧ Hid (Below w.heap.size w w')) := HG.out w3 hB
    clear hB
    go_wp2_with fail
    go_at_call 52
    refine (HG1.out).mono ?_
    rintro e w4 ⟨rfl, HB⟩
    go_wp2
    all_goals (go_ret; exact ⟨by rw [HA.out]; rfl, HB.out⟩)

end Go.Proofs.YtgoiefhhbgollaaGreatDoor
