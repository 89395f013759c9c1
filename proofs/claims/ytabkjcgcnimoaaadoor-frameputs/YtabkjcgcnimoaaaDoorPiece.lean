/- Lists of texts of bytes that are marked: what a mark is in memory; no Go function is walked here. -/
import Derived.Test.YtabkjcgcnimoaaaDoorApart
import Derived.Test.YtabkjcgcnimoaaaDoorMarkS
import Derived.Test.YtabkjcgcnimoaaaDoorReaderMore
import Derived.Test.YtabkjcgcnimoaaaDoorWriterAll
namespace Go.Proofs.YtabkjcgcnimoaaaDoor
open Go.RowKit
set_option maxRecDepth 8000

/-- A text of bytes in a row of bytes. -/
def SeesB (w : World) (u : Value) (s : ByteArray) : Prop := Sees w u (txt s) ∧ ∀ k, u.ownBlock = some k → ∃ cs fr, w.heap[k]? = some (.cells cs 5 fr)

theorem SeesB.kept {w w' : World} {u : Value} {s : ByteArray} (h : SeesB w u s) (hk : Kept w w' (fun _ => False)) : SeesB w' u s :=
  ⟨h.1.kept hk (fun _ _ h => h), fun k hu => by
    obtain ⟨cs, fr, hr⟩ := h.2 k hu
    exact ⟨cs, fr, hk.heap hr (fun h => h)⟩⟩

theorem SeesB.turned {w w' : World} {u : Value} {s : ByteArray} {S : Nat → Nat → Prop} {E : TypeId} (h : SeesB w u s) (ht : Turned w w' S) (hS : ∀ k x, S k x → ∃ cs fr, w.heap[k]? = some (.cells cs E fr)) (hE : E ≠ 5) : SeesB w' u s := by
  have hn : ∀ k, u.ownBlock = some k → ∀ x, ¬ S k x := by
    intro k hu x hs
    obtain ⟨cs, fr, hr⟩ := h.2 k hu
    obtain ⟨cs', fr', hr'⟩ := hS k x hs
    rw [hr] at hr'
    simp at hr'
    exact hE hr'.2.1.symm
  refine ⟨?_, fun k hu => ?_⟩
  · obtain ⟨ao, cap, rfl, h1, h2, h0, h3⟩ := h.1
    refine ⟨ao, cap, rfl, h1, h2, h0, ?_⟩
    rcases h3 with h3 | ⟨b, off, rfl, h3⟩
    · exact .inl h3
    · exact .inr ⟨b, off, rfl, fun i hi => ht.cell (h3 i hi) (hn b rfl _)⟩
  · obtain ⟨cs, fr, hr⟩ := h.2 k hu
    rw [ht.same k (lt_of_block hr) (hn k hu)]
    exact ⟨cs, fr, hr⟩

theorem SeesB.typed {w w' : World} {u : Value} {s : ByteArray} {E : TypeId} (h : SeesB w u s) (hk : Kept w w' (OfType w E)) (hE : E ≠ 5) : SeesB w' u s := by
  have hn : ∀ k, u.ownBlock = some k → ¬ OfType w E k := by
    rintro k hu ⟨cs', fr', hr'⟩
    obtain ⟨cs, fr, hr⟩ := h.2 k hu
    rw [hr] at hr'
    simp at hr'
    exact hE hr'.2.1.symm
  refine ⟨h.1.kept hk hn, fun k hu => ?_⟩
  obtain ⟨cs, fr, hr⟩ := h.2 k hu
  exact ⟨cs, fr, hk.heap hr (hn k hu)⟩

theorem seesB_text (w : World) (s : ByteArray) (hs : s.size ≤ maxLen) (mk : Nat × Nat) :
    SeesB (w.drew.alloc (.cells (bytesRow s (grownCap w s.size 0 5)) 5 mk)) (.slice (some ⟨w.heap.size, 0, none⟩) s.size (grownCap w s.size 0 5)) s :=
  ⟨sees_text w s hs mk, fun k hk => by
    simp [Value.ownBlock] at hk
    subst hk
    exact ⟨_, _, heap_alloc_new w.drew _⟩⟩

theorem str_txt' (s : ByteArray) : strOfNums (txt s) = s := by
  unfold strOfNums txt
  rw [List.map_map]
  have : ((fun n : Int => UInt8.ofNat n.toNat) ∘ fun b : UInt8 => (b.toNat : Int)) = id := by
    funext b
    simp
  rw [this]
  simp

theorem run_textB {w : World} {u : Value} {s : ByteArray} (h : SeesB w u s) : (convert 22 9 u).run Tryd.prog w = .ok (.string s) w := by
  have := run_text w u (txt s) h.1
  rw [str_txt'] at this
  exact this

end Go.Proofs.YtabkjcgcnimoaaaDoor
