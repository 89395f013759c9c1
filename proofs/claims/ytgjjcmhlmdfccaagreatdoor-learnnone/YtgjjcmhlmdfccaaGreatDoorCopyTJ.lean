/- learn.New of a follower with nothing. -/
import Derived.Test.YtgjjcmhlmdfccaaGreatDoorLnBJ
import Derived.Test.YtgjjcmhlmdfccaaGreatDoorRisesTJ
import Derived.Test.YtgjjcmhlmdfccaaGreatDoorProg
import Derived.Test.YtgjjcmhlmdfccaaGreatDoorStorJ
import Derived.Test.YtgjjcmhlmdfccaaGreatDoorEqQJ
import Derived.Maps.AppendAt
import Derived.Deep.RegionHeld2
namespace Go.Proofs.YtgjjcmhlmdfccaaGreatDoor
open Go.RowKit
set_option maxRecDepth 8000
set_option linter.unusedSimpArgs false

theorem store_fnL (P : Program) (w : World) (a : Addr) (m : Mode) (f : Fn) (x y : Array Value) : (store a (.func f x y) m).run P w = stored P w a (.func f x y) m := run_store P w a _ m rfl

theorem zxids_no (w : World) : Calls Tryz.prog 23 #[zx 0 0, .slice none 0 0] w fun e w' => ∃ g, e = .returned (.slice (some ⟨g, 0, none⟩) 1 1) ∧ w'.heap[g]? = some (.cells #[.int .u32 0, .int .u32 0] 27 (0, 0)) ∧ Below w.heap.size w w' := by
  obtain ⟨V, hV⟩ : ∃ V, V = (w.alloc (.cells #[.int .u32 0, .int .u32 0] 27)).alloc (.cells #[.int .u32 0, .int .u32 0] 27) := ⟨_, rfl⟩
  have HV : Hid (Below w.heap.size w ((w.alloc (.cells #[.int .u32 0, .int .u32 0] 27)).alloc (.cells #[.int .u32 0, .int .u32 0] 27)) ∧ ((w.alloc (.cells #[.int .u32 0, .int .u32 0] 27)).alloc (.cells #[.int .u32 0, .int .u32 0] 27)).heap[w.heap.size + 1]? = some (.cells #[.int .u32 0, .int .u32 0] 27 (0, 0))) := ⟨two_alloc _ _ _, by have := heap_alloc_new (w.alloc (.cells #[.int .u32 0, .int .u32 0] 27)) (.cells #[.int .u32 0, .int .u32 0] 27 (0, 0)); simpa using this⟩
  clear hV
  go_enter Tryz.func23, Tryz.ntmps23
  go_wp2_with fail
  go_loopw [5, 12] (fun o i wr => o = .slice (some ⟨w.heap.size + 1, 0, none⟩) 1 1 ∧ i = .int .i64 0 ∧ wr = (w.alloc (.cells #[.int .u32 0, .int .u32 0] 27)).alloc (.cells #[.int .u32 0, .int .u32 0] 27)) (fun _ _ _ => 0)
  case atStart => exact ⟨rfl, rfl, rfl⟩
  case round =>
    obtain ⟨rfl, rfl, rfl⟩ := hrel
    go_wp2
    go_ret
    exact ⟨_, rfl, HV.out.2, HV.out.1⟩

theorem new_no (w : World) : Calls Tryz.prog 11 #[.int .u32 1, zx 0 0, .slice none 0 0] w fun e w' => ∃ p hi, e = .returned (.tuple #[.pointer (some ⟨p, 0, none⟩), .int .i64 0]) ∧ LnAt w' p 1 hi (.func (.func 24) #[.pointer (some ⟨p, 0, none⟩)] #[]) (.iface 74 (zx 0 0)) (.slice none 0 0) false ∧ w.heap.size ≤ p ∧ Below w.heap.size w w' := by
  have hmf : ∀ (fn : Fn) (first cap : Array Value) (w : World), (Instr.makeFunc fn first cap).run Tryz.prog w = .ok (.func fn first cap) w := fun _ _ _ _ => rfl
  have hb1 : Below w.heap.size w (w.alloc (.cells #[.int .u32 0, .int .u32 0] 27)) := one_alloc _ _
  have HR : Hid _ := rises_any 0 0 (.slice none 0 0) [] (w.alloc (.cells #[.int .u32 0, .int .u32 0] 27)) (SeesTxs.zs ⟨[], SeesR.nil _ _, rfl, fun i h => by simp at h⟩)
  go_enter Tryz.func11, Tryz.ntmps11
  go_wp2_with fail
  go_at_call 22
  refine Calls.mono HR.out ?_
  rintro e w2 ⟨rfl, b2⟩
  have r2 : w2.heap[w.heap.size]? = some (.cells #[.int .u32 0, .int .u32 0] 27 (0, 0)) := by rw [b2.block _ (by simp)]; exact heap_alloc_new _ _
  have c0 := cell_of_row _ _ 0 _ _ _ r2
  have c1 := cell_of_row _ _ 1 _ _ _ r2
  simp at c0 c1
  have H2 : Hid (Below w.heap.size w w2) := hb1.trans (b2.mono hb1.size)
  clear b2 r2 HR hb1
  rw [show rises 0 0 ([] : List TxD) = true from rfl]
  go_wp2_with fail
  go_at_call 23
  refine (zxids_no w2).mono ?_
  rintro e w3 ⟨g, rfl, r3, b3⟩
  have d0 := cell_of_row _ _ 0 _ _ _ r3
  have d1 := cell_of_row _ _ 1 _ _ _ r3
  simp at d0 d1
  have H3 : Hid (Below w.heap.size w w3) := H2.out.trans (b3.mono H2.out.size)
  clear b3 r3 H2 c0 c1
  have hsf := store_fnL
  go_wp2_with fail
  go_ret2
  exact ⟨_, _, rfl, heap_alloc_new _ _, H3.out.size, H3.out.trans ((one_alloc _ _).mono H3.out.size)⟩
end Go.Proofs.YtgjjcmhlmdfccaaGreatDoor

/- What CopyBytes of lagoonref00 answers: the same bytes in a row of its own. -/
namespace Go.Proofs.YtgjjcmhlmdfccaaGreatDoor
open Go.RowKit
set_option maxRecDepth 8000

end Go.Proofs.YtgjjcmhlmdfccaaGreatDoor

/- CopyIds and CopyAcl of lagoonref00: the same elements in a row of their own; a row that is owned, seen. -/
namespace Go.Proofs.YtgjjcmhlmdfccaaGreatDoor
open Go.RowKit
set_option maxRecDepth 8000

theorem flat_at {z : Nat} {cs : List (List Value)} (hz : ∀ c ∈ cs, c.length = z) (k j : Nat) (hk : k < cs.length) (hj : j < z) : cs.flatten[k * z + j]? = some (cs[k].getD j (.bool false)) := by
  induction cs generalizing k with
  | nil => simp at hk
  | cons c r ih =>
    have hc := hz c (by simp)
    rw [List.flatten_cons]
    cases k with
    | zero =>
      rw [List.getElem?_append_left (by omega), Nat.zero_mul, Nat.zero_add]
      simp [List.getD_eq_getElem?_getD, hc, hj]
    | succ k =>
      have e : (k + 1) * z + j - c.length = k * z + j := by rw [hc, Nat.succ_mul]; omega
      rw [List.getElem?_append_right (by rw [hc, Nat.succ_mul]; omega), e, ih (fun c hc => hz c (by simp [hc])) k (by simpa using hk)]
      simp

/-- A row that is owned is seen. -/
theorem seesR_own {w : World} {base : Nat} {t : TypeId} {z : Nat} {v : Value} {cs : List (List Value)} (h : w.ownsRow base t z v cs.length cs.flatten) (hz : ∀ c ∈ cs, c.length = z) : SeesR w v z cs := by
  rcases h.2 with ⟨rfl, h0⟩ | ⟨g, cap, cur, rfl, h1, h2, h3, h4, h5, h6⟩
  · have : cs = [] := List.eq_nil_of_length_eq_zero h0
    subst this
    exact SeesR.nil w z
  · refine ⟨_, cap, rfl, h3, h4, fun e => by simp at e, .inr ⟨g, 0, rfl, fun i hi j hj => ?_⟩⟩
    have hlt : i * z + j < cs.length * z := by
      have : (i + 1) * z ≤ cs.length * z := Nat.mul_le_mul_right z hi
      rw [Nat.succ_mul] at this
      omega
    rw [Nat.zero_add, cell_of_row _ _ _ _ _ _ h2, ← flat_at hz i j hi hj, ← h6]
    rw [List.getElem?_take, if_pos hlt]
    simp

theorem addrAdd (b off n : Nat) : (⟨b, off, none⟩ : Addr).add n = ⟨b, off + n, none⟩ := by
  by_cases h : n = 0
  · subst h; simp [Addr.add]
  · simp [Addr.add, h]

theorem ownsRow_kept {w w' : World} {S : Nat → Prop} {base : Nat} {t : TypeId} {z n : Nat} {v : Value} {xs : List Value} (h : w.ownsRow base t z v n xs) (hk : Kept w w' S) (hn : ∀ k, v.ownBlock = some k → ¬ S k) : w'.ownsRow base t z v n xs := by
  refine ⟨h.1, ?_⟩
  rcases h.2 with h | ⟨g, cap, cur, rfl, h1, h2, h3⟩
  · exact .inl h
  · exact .inr ⟨g, cap, cur, rfl, h1, hk.heap h2 (hn g rfl), h3⟩

end Go.Proofs.YtgjjcmhlmdfccaaGreatDoor

/- A request that lies in blocks of a given set; what stands while a request is copied; an append as a step of a drawn region. No Go function is walked here. -/
namespace Go.Proofs.YtgjjcmhlmdfccaaGreatDoor
open Go.RowKit
set_option maxRecDepth 8000

theorem SeesR.kept {w w' : World} {S : Nat → Prop} {v : Value} {z : Nat} {cs : List (List Value)} (h : SeesR w v z cs) (hk : Kept w w' S) (hn : ∀ k, v.ownBlock = some k → ¬ S k) : SeesR w' v z cs := by
  obtain ⟨ao, cap, rfl, h1, h2, h0, h3⟩ := h
  refine ⟨ao, cap, rfl, h1, h2, h0, ?_⟩
  rcases h3 with h3 | ⟨b, off, rfl, h3⟩
  · exact .inl h3
  · exact .inr ⟨b, off, rfl, fun i hi j hj => hk.cell (h3 i hi j hj) (hn b rfl)⟩

/-- The cells cs are those of the request r, and all its lists lie in blocks of F. -/
inductive RqIn (w : World) (F : Nat → Prop) : List Value → Rq → Prop where
  | mk (f : RqF) (n : Nat) (ops : Fin n → Rq) (dv av wv ov : Value) (oc : Fin n → List Value)
      (hd : Sees w dv f.data) (ha : SeesR w av 3 (f.acl.map EnD.cells)) (hw : SeesR w wv 2 (f.who.map IdD.cells)) (ho : SeesR w ov 11 (List.ofFn oc))
      (fd : ∀ k, dv.ownBlock = some k → F k) (fa : ∀ k, av.ownBlock = some k → F k) (fw : ∀ k, wv.ownBlock = some k → F k) (fo : ∀ k, ov.ownBlock = some k → F k)
      (hs : ∀ i : Fin n, RqIn w F (oc i) (ops i)) : RqIn w F (rqCells f dv av wv ov) (.mk f n ops)

theorem RqIn.sees {w : World} {F : Nat → Prop} {cs : List Value} {r : Rq} (h : RqIn w F cs r) : SeesRq w cs r := by
  induction h with
  | mk f n ops dv av wv ov oc hd ha hw ho _ _ _ _ _ ih => exact .mk f n ops dv av wv ov oc hd ha hw ho ih

theorem RqIn.kept {w w' : World} {S F F' : Nat → Prop} (hk : Kept w w' S) (hF : ∀ k, F k → ¬ S k ∧ F' k) {cs : List Value} {r : Rq} (h : RqIn w F cs r) : RqIn w' F' cs r := by
  induction h with
  | mk f n ops dv av wv ov oc hd ha hw ho fd fa fw fo _ ih =>
    exact .mk f n ops dv av wv ov oc (hd.kept hk (fun k h => (hF k (fd k h)).1)) (ha.kept hk (fun k h => (hF k (fa k h)).1)) (hw.kept hk (fun k h => (hF k (fw k h)).1)) (ho.kept hk (fun k h => (hF k (fo k h)).1))
      (fun k h => (hF k (fd k h)).2) (fun k h => (hF k (fa k h)).2) (fun k h => (hF k (fw k h)).2) (fun k h => (hF k (fo k h)).2) ih

abbrev rqZ : Array Value := #[.int .i8 0, .string ⟨#[]⟩, .slice none 0 0, .slice none 0 0, .int .i32 0, .bool false, .bool false, .int .i64 0, .int .i32 0, .slice none 0 0, .slice none 0 0]

section
variable {w W W' : World} {cs ds : Array Value}
end

theorem Tryz.infoRq : (Tryz.prog.info? 35).map (fun i => (i.zero, i.size, i.bytes)) = some (some (.agg rqZ), 11, 144) := by kernel_rfl

end Go.Proofs.YtgjjcmhlmdfccaaGreatDoor

/- A round of the copy of a request's inner ones. No Go function is walked here. -/
namespace Go.Proofs.YtgjjcmhlmdfccaaGreatDoor
open Go.RowKit
set_option maxRecDepth 8000

theorem row_shape {w : World} {base : Nat} {t : TypeId} {z : Nat} {v : Value} {n : Nat} {xs : List Value} (h : w.ownsRow base t z v n xs) : ∃ ao n c, v = .slice ao n c := by
  rcases h.2 with ⟨rfl, _⟩ | ⟨g, cap, cur, rfl, _⟩
  · exact ⟨_, _, _, rfl⟩
  · exact ⟨_, _, _, rfl⟩

end Go.Proofs.YtgjjcmhlmdfccaaGreatDoor
