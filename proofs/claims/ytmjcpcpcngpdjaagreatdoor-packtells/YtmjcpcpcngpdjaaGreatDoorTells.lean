/- Two Writers in turns, what they must hold, and the lists that were told: what of it stays when something is put, and when lists are told; no Go function is walked here but put. -/
import Derived.Test.YtmjcpcpcngpdjaaGreatDoorPut3
import Derived.Test.YtmjcpcpcngpdjaaGreatDoorBag3
namespace Go.Proofs.YtmjcpcpcngpdjaaGreatDoor
open Go.RowKit
set_option maxRecDepth 8000

/-- A value's bytes; none of another kind. -/
def encK (kind n : Int) (x : Nat) (s : ByteArray) (ys : List Int) : List Int := if 1 ≤ kind ∧ kind ≤ 9 then encOf kind n x s ys else []

set_option maxHeartbeats 400000 in
theorem put_other (pv : Value) (on n : Int) (x : Nat) (s : ByteArray) (ao : Option Addr) (l cap : Nat) (w : World) (kind : Int) (hk : kind < 1 ∨ 9 < kind) :
    Calls Tryz.prog 7 #[pv, opv kind on n x s (.slice ao l cap)] w fun e w' => e = .returned (.tuple #[.slice none 0 0, .bool true]) ∧ Kept w w' (fun _ => False) := by
  have k1 : (kind == 1) = false := by simp; omega
  have k2 : (kind == 2) = false := by simp; omega
  have k3 : (kind == 3) = false := by simp; omega
  have k4 : (kind == 4) = false := by simp; omega
  have k5 : (kind == 5) = false := by simp; omega
  have k6 : (kind == 6) = false := by simp; omega
  have k7 : (kind == 7) = false := by simp; omega
  have k8 : (kind == 8) = false := by simp; omega
  have k9 : (kind == 9) = false := by simp; omega
  clear hk
  go_enter Tryz.func7, Tryz.ntmps7
  go_wp2
  go_ret2
  exact ⟨rfl, (Kept.refl w _).alloc _⟩

theorem put_every (kind : Int) (g : Nat) (v : Value) (xs ys : List Int) (on n : Int) (x : Nat) (s : ByteArray) (ao : Option Addr) (cap : Nat) (w : World) (h : IsW w g v xs) (hs : Sees w (.slice ao ys.length cap) ys)
    (hap : ys ≠ [] → ∀ k, (Value.slice ao ys.length cap).ownBlock = some k → k ≠ g ∧ v.ownBlock ≠ some k) (hf : Fits n x s ys) (hb : (xs ++ encK kind n x s ys).length ≤ 140737488355328) :
    Calls Tryz.prog 7 #[.pointer (some ⟨g, 0, none⟩), opv kind on n x s (.slice ao ys.length cap)] w fun e w' => ∃ u, e = .returned (.tuple #[u, .bool true]) ∧ PutTo w g v xs (encK kind n x s ys) u w' := by
  by_cases hk : 1 ≤ kind ∧ kind ≤ 9
  · have e : encK kind n x s ys = encOf kind n x s ys := by unfold encK; rw [if_pos hk]
    rw [e] at hb ⊢
    exact put_all kind hk.1 hk.2 g v xs ys on n x s ao cap w h hs hap hf hb
  · have e : encK kind n x s ys = [] := by unfold encK; rw [if_neg hk]
    rw [e]
    refine (put_other _ on n x s ao ys.length cap w kind (by omega)).mono ?_
    rintro e w1 ⟨rfl, hk1⟩
    refine ⟨_, rfl, sees_nil _, fun k hk => by simp [Value.ownBlock] at hk, v, ?_, .inl rfl, hk1.mono (fun _ _ h => h.elim)⟩
    rw [List.append_nil]
    exact h.kept hk1 (fun h => h) (fun _ _ h => h)

theorem encK_len (kind n : Int) (x : Nat) (s : ByteArray) (ys : List Int) : (encK kind n x s ys).length ≤ 8 * (1 + s.size + ys.length) := by
  unfold encK
  split
  · unfold encOf
    have h4 : ∀ m, (be4 m).length = 4 := fun _ => rfl
    have h8 : ∀ m, (be8 m).length = 8 := fun _ => rfl
    split <;> simp [h4, h8, txt_len] <;> omega
  · simp

/-- The array of the two Writers, and that of what they must hold. -/
abbrev arrW (W : Bool → Nat) : Obj := .cells #[.pointer (some ⟨W false, 0, none⟩), .pointer (some ⟨W true, 0, none⟩)] 26 (0, 0)
abbrev arrD (d : Bool → Value) : Obj := .cells #[d false, d true] 28 (0, 0)

/-- Another value at one place. -/
def upd {α : Type} (f : Bool → α) (b : Bool) (x : α) : Bool → α := fun c => if c = b then x else f c
theorem upd_same {α : Type} (f : Bool → α) (b : Bool) (x : α) : upd f b x b = x := by unfold upd; rw [if_pos rfl]
theorem upd_other {α : Type} (f : Bool → α) (b c : Bool) (x : α) (h : c ≠ b) : upd f b x c = f c := by unfold upd; rw [if_neg h]

structure Tells (w : World) (A D G : Nat) (W : Bool → Nat) (wr : World) (v d : Bool → Value) (xs ys : Bool → List Int) (kv hv : Value) (ks hs : List Pc) (zs hz : List (List Int)) : Prop where
  a : wr.heap[A]? = some (arrW W)
  d' : wr.heap[D]? = some (arrD d)
  isW : ∀ b, IsW wr (W b) (v b) (xs b)
  own : ∀ b, Owns wr w.heap.size (d b) (ys b)
  bag : BagIs wr G nilS nilS [] [] w.heap.size
  kept : wr.ownsRow w.heap.size 27 1 kv ks.length (ks.map Pc.val)
  whole : wr.ownsRow w.heap.size 27 1 hv hs.length (hs.map Pc.val)
  klen : ks.length = zs.length
  hlen : hs.length = hz.length
  klook : ∀ j (h : j < zs.length) (hk : j < ks.length), Owns wr w.heap.size ks[j].val zs[j]
  hlook : ∀ j (h : j < hz.length) (hk : j < hs.length), Owns wr w.heap.size hs[j].val hz[j]
  apart : ∀ i j (hi : i < ks.length) (hj : j < ks.length), i ≠ j → ∀ k, ks[i].val.ownBlock = some k → ks[j].val.ownBlock ≠ some k
  kfar : ∀ p ∈ ks, ∀ k, p.val.ownBlock = some k → ∀ b, (v b).ownBlock ≠ some k
  hfar : ∀ p ∈ hs, ∀ k, p.val.ownBlock = some k → ∀ b, (v b).ownBlock ≠ some k
  dfar : ∀ b k, (d b).ownBlock = some k → ∀ b', (v b').ownBlock ≠ some k
  kh : ∀ k, kv.ownBlock = some k → hv.ownBlock ≠ some k
  wne : W false ≠ W true
  vne : ∀ b c, b ≠ c → ∀ k, (v b).ownBlock = some k → (v c).ownBlock ≠ some k
  vlow : ∀ b k, (v b).ownBlock = some k → w.heap.size ≤ k
  wlow : ∀ b, w.heap.size ≤ W b
  alow : w.heap.size ≤ A
  dlow : w.heap.size ≤ D
  glow : w.heap.size ≤ G
  below : Below w.heap.size w wr

theorem ne_type {w : World} {x y : Nat} {c1 c2 : Array Value} {T1 T2 : TypeId} {f1 f2 : Nat × Nat} (h1 : w.heap[x]? = some (.cells c1 T1 f1)) (h2 : w.heap[y]? = some (.cells c2 T2 f2)) (h : T1 ≠ T2) : x ≠ y := by
  intro e
  subst e
  rw [h1] at h2
  simp at h2
  exact h h2.2.1

theorem own_row {w : World} {B : Nat} {v : Value} {xs : List Int} {k : Nat} (h : Owns w B v xs) (hk : v.ownBlock = some k) : (∃ cs, w.heap[k]? = some (.cells cs 5 (0, 0))) ∧ B ≤ k ∧ k < w.heap.size := by
  rcases h.2 with ⟨rfl, _⟩ | ⟨g, cap, cur, rfl, hb, hr, _⟩
  · simp [Value.ownBlock] at hk
  · simp [Value.ownBlock] at hk
    subst hk
    exact ⟨⟨cur, hr⟩, hb, lt_of_block hr⟩

theorem rows_row {w : World} {B : Nat} {T : TypeId} {v : Value} {n : Nat} {xs : List Value} {k : Nat} (h : w.ownsRow B T 1 v n xs) (hk : v.ownBlock = some k) : (∃ cs, w.heap[k]? = some (.cells cs T (0, 0))) ∧ B ≤ k ∧ k < w.heap.size := by
  rcases h.2 with ⟨rfl, _⟩ | ⟨g, cap, cur, rfl, hb, hr, _⟩
  · simp [Value.ownBlock] at hk
  · simp [Value.ownBlock] at hk
    subst hk
    exact ⟨⟨cur, hr⟩, hb, lt_of_block hr⟩

section
variable {w wr w1 : World} {A D G : Nat} {W : Bool → Nat} {v d : Bool → Value} {xs ys : Bool → List Int} {kv hv : Value} {ks hs : List Pc} {zs hz : List (List Int)} {S : Nat → Prop}

/-- Blocks that are none of the play's. -/
theorem Tells.keep (h : Tells w A D G W wr v d xs ys kv hv ks hs zs hz) (hk : Kept wr w1 S) (hA : ¬ S A) (hD : ¬ S D) (hG : ¬ S G) (hW : ∀ b, ¬ S (W b)) (hV : ∀ b k, (v b).ownBlock = some k → ¬ S k) (hd : ∀ b k, (d b).ownBlock = some k → ¬ S k)
    (hkv : ∀ k, kv.ownBlock = some k → ¬ S k) (hhv : ∀ k, hv.ownBlock = some k → ¬ S k) (hks : ∀ p ∈ ks, ∀ k, p.val.ownBlock = some k → ¬ S k) (hhs : ∀ p ∈ hs, ∀ k, p.val.ownBlock = some k → ¬ S k) (hlow : ∀ k, S k → w.heap.size ≤ k) : Tells w A D G W w1 v d xs ys kv hv ks hs zs hz :=
  { a := hk.heap h.a hA
    d' := hk.heap h.d' hD
    isW := fun b => (h.isW b).kept hk (hW b) (hV b)
    own := fun b => Owns.kept (h.own b) hk (hd b)
    bag := ⟨hk.heap h.bag.row hG, World.ownsRow_nil _ _ _ _, World.ownsRow_nil _ _ _ _⟩
    kept := ownsRow_kept' h.kept hk hkv
    whole := ownsRow_kept' h.whole hk hhv
    klen := h.klen
    hlen := h.hlen
    klook := fun j hj hk' => Owns.kept (h.klook j hj hk') hk (hks _ (List.getElem_mem hk'))
    hlook := fun j hj hk' => Owns.kept (h.hlook j hj hk') hk (hhs _ (List.getElem_mem hk'))
    apart := h.apart
    kfar := h.kfar
    hfar := h.hfar
    dfar := h.dfar
    kh := h.kh
    wne := h.wne
    vne := h.vne
    vlow := h.vlow
    wlow := h.wlow
    alow := h.alow
    dlow := h.dlow
    glow := h.glow
    below := h.below.trans (hk.below h.below.size hlow) }

theorem Tells.new (h : Tells w A D G W wr v d xs ys kv hv ks hs zs hz) (hk : Kept wr w1 (fun _ => False)) : Tells w A D G W w1 v d xs ys kv hv ks hs zs hz :=
  h.keep hk (fun h => h) (fun h => h) (fun h => h) (fun _ h => h) (fun _ _ _ h => h) (fun _ _ _ h => h) (fun _ _ h => h) (fun _ _ h => h) (fun _ _ _ _ h => h) (fun _ _ _ _ h => h) (fun _ h => h.elim)

theorem Tells.klow (h : Tells w A D G W wr v d xs ys kv hv ks hs zs hz) : ∀ p ∈ ks, ∀ k, p.val.ownBlock = some k → (∃ cs, wr.heap[k]? = some (.cells cs 5 (0, 0))) ∧ w.heap.size ≤ k ∧ k < wr.heap.size := by
  intro p hp k hk
  obtain ⟨j, hj, rfl⟩ := List.getElem_of_mem hp
  exact own_row (h.klook j (by rw [← h.klen]; exact hj) hj) hk
theorem Tells.hlow (h : Tells w A D G W wr v d xs ys kv hv ks hs zs hz) : ∀ p ∈ hs, ∀ k, p.val.ownBlock = some k → (∃ cs, wr.heap[k]? = some (.cells cs 5 (0, 0))) ∧ w.heap.size ≤ k ∧ k < wr.heap.size := by
  intro p hp k hk
  obtain ⟨j, hj, rfl⟩ := List.getElem_of_mem hp
  exact own_row (h.hlook j (by rw [← h.hlen]; exact hj) hj) hk

/-- Behind a put. -/
theorem Tells.put (h : Tells w A D G W wr v d xs ys kv hv ks hs zs hz) (b : Bool) {ws : List Int} (hp : Puts wr (W b) (v b) ws w1) : ∃ v', Tells w A D G W w1 (upd v b v') d (upd xs b ws) ys kv hv ks hs zs hz := by
  obtain ⟨v', k1, k2, k3⟩ := hp
  have hWr := (h.isW b).1
  have hvr : ∀ k, (v b).ownBlock = some k → ∃ cs, wr.heap[k]? = some (.cells cs 5 (0, 0)) := fun k hk => (own_row (h.isW b).2 hk).1
  have hn : ∀ {x : Nat} {cs : Array Value} {T : TypeId} {fr : Nat × Nat}, wr.heap[x]? = some (.cells cs T fr) → T ≠ 30 → T ≠ 5 → ¬ (x = W b ∨ (v b).ownBlock = some x) := by
    intro x cs T fr hx h1 h2 hs
    rcases hs with rfl | hs
    · exact ne_type hx hWr h1 rfl
    · obtain ⟨cs', hr⟩ := hvr x hs
      exact ne_type hx hr h2 rfl
  have hn8 : ∀ {x : Nat} {cs : Array Value}, wr.heap[x]? = some (.cells cs 5 (0, 0)) → (v b).ownBlock ≠ some x → ¬ (x = W b ∨ (v b).ownBlock = some x) := by
    intro x cs hx h1 hs
    rcases hs with rfl | hs
    · exact ne_type hx hWr (by decide) rfl
    · exact h1 hs
  have hnew : ∀ k, v'.ownBlock = some k → (v b).ownBlock = some k ∨ wr.heap.size ≤ k := by
    intro k hk
    rcases k2 with e | ⟨j, e, hj⟩
    · rw [e] at hk; exact .inl hk
    · rw [e] at hk; simp at hk; subst hk; exact .inr hj
  have hfar : ∀ k, k < wr.heap.size → (∀ c, (v c).ownBlock ≠ some k) → ∀ c, (upd v b v' c).ownBlock ≠ some k := by
    intro k hk hv c e
    by_cases hc : c = b
    · subst hc
      rw [upd_same] at e
      rcases hnew k e with e' | e'
      · exact hv _ e'
      · omega
    · rw [upd_other _ _ _ _ hc] at e
      exact hv c e
  refine ⟨v', ?_⟩
  exact
  { a := k3.heap h.a (hn h.a (by decide) (by decide))
    d' := k3.heap h.d' (hn h.d' (by decide) (by decide))
    isW := fun c => by
      by_cases hc : c = b
      · subst hc; rw [upd_same, upd_same]; exact k1
      · rw [upd_other _ _ _ _ hc, upd_other _ _ _ _ hc]
        refine (h.isW c).kept k3 (fun hs => ?_) (fun k hk hs => ?_)
        · rcases hs with hs | hs
          · have := h.wne
            cases b <;> cases c <;> simp_all
          · obtain ⟨cs', hr⟩ := hvr _ hs
            exact ne_type (h.isW c).1 hr (by decide) rfl
        · exact hn8 (own_row (h.isW c).2 hk).1.choose_spec (h.vne c b hc k hk) hs
    own := fun c => Owns.kept (h.own c) k3 (fun k hk => hn8 (own_row (h.own c) hk).1.choose_spec (h.dfar c k hk b))
    bag := ⟨k3.heap h.bag.row (hn h.bag.row (by decide) (by decide)), World.ownsRow_nil _ _ _ _, World.ownsRow_nil _ _ _ _⟩
    kept := ownsRow_kept' h.kept k3 (fun k hk => hn (rows_row h.kept hk).1.choose_spec (by decide) (by decide))
    whole := ownsRow_kept' h.whole k3 (fun k hk => hn (rows_row h.whole hk).1.choose_spec (by decide) (by decide))
    klen := h.klen
    hlen := h.hlen
    klook := fun j hj hk' => Owns.kept (h.klook j hj hk') k3 (fun k hk => hn8 (h.klow _ (List.getElem_mem hk') k hk).1.choose_spec (h.kfar _ (List.getElem_mem hk') k hk b))
    hlook := fun j hj hk' => Owns.kept (h.hlook j hj hk') k3 (fun k hk => hn8 (h.hlow _ (List.getElem_mem hk') k hk).1.choose_spec (h.hfar _ (List.getElem_mem hk') k hk b))
    apart := h.apart
    kfar := fun p hp k hk => hfar k (h.klow p hp k hk).2.2 (h.kfar p hp k hk)
    hfar := fun p hp k hk => hfar k (h.hlow p hp k hk).2.2 (h.hfar p hp k hk)
    dfar := fun c k hk => hfar k (own_row (h.own c) hk).2.2 (h.dfar c k hk)
    kh := h.kh
    wne := h.wne
    vne := fun c e hce k hk hk' => by
      by_cases hc : c = b
      · subst hc
        rw [upd_same] at hk
        rw [upd_other _ _ _ _ (fun e' => hce e'.symm)] at hk'
        rcases hnew k hk with q | q
        · exact h.vne c e hce k q hk'
        · have := (own_row (h.isW e).2 hk').2.2; omega
      · rw [upd_other _ _ _ _ hc] at hk
        by_cases he : e = b
        · subst he
          rw [upd_same] at hk'
          rcases hnew k hk' with q | q
          · exact h.vne c e hce k hk q
          · have := (own_row (h.isW c).2 hk).2.2; omega
        · rw [upd_other _ _ _ _ he] at hk'
          exact h.vne c e hce k hk hk'
    vlow := fun c k hk => by
      by_cases hc : c = b
      · subst hc
        rw [upd_same] at hk
        rcases hnew k hk with q | q
        · exact h.vlow c k q
        · have := h.below.size; omega
      · rw [upd_other _ _ _ _ hc] at hk
        exact h.vlow c k hk
    wlow := h.wlow
    alow := h.alow
    dlow := h.dlow
    glow := h.glow
    below := h.below.trans (k3.below h.below.size (fun k hs => by
      rcases hs with rfl | hs
      · exact h.wlow b
      · exact h.vlow b k hs)) }

end
end Go.Proofs.YtmjcpcpcngpdjaaGreatDoor
