/-
  Proved: contracts of functions, plain facts. Conditions: as each says.
-/
import Derived.Lib.RuneCountTail
import Derived.Lib.Hide
import Derived.Lib.RuneBytes
import Derived.Lib.DecodeN
import Derived.Laws.RangeAny
import Derived.Test.YtakceggnadagmaaGreatDoorRows
import Derived.Deep.MidRow
import Derived.Deep.AppendLies
import Derived.WalkKit
import Derived.OwnWalk
import Derived.Lib.FrozenHead
import Derived.Below
namespace Go.Proofs.YtakceggnadagmaaGreatDoor.GlyphMath
open Go Go.Lib
def runesAt (s:ByteArray):Nat→Nat→List Nat
  |0,_=> []
  |f+1,i=>if i<s.size then(Utf8.decode s i).1::runesAt s f (i+(Utf8.decode s i).2)else []
def letters (s:ByteArray):List Nat:=runesAt s s.size 0
def bad (s:ByteArray) (i:Nat):Bool:=(Utf8.decode s i).1==0||((Utf8.decode s i).1==65533&&(Utf8.decode s i).2==1)
def badAt (s:ByteArray):Nat→Nat→Option Nat
  |0,_=>none
  |f+1,i=>if i<s.size then(if bad s i then some i else badAt s f (i+(Utf8.decode s i).2))else none
def firstBad (s:ByteArray):Option Nat:=badAt s s.size 0
theorem runesAt_end (s:ByteArray) (f i:Nat) (h:¬i<s.size):runesAt s f i= []:=by cases f<;>simp[runesAt,h]
theorem badAt_end (s:ByteArray) (f i:Nat) (h:¬i<s.size):badAt s f i=none:=by cases f<;>simp[badAt,h]
theorem width_pos (s:ByteArray) (i:Nat) (h:i<s.size):1≤(Utf8.decode s i).2:=decode_width_pos s i h
theorem decodeN_width (n b0 b1 b2 b3:Nat) (hn:0<n):(decodeN n b0 b1 b2 b3).2≤n∧(decodeN n b0 b1 b2 b3).2≤4:=by
  unfold decodeN
  repeat' split
  all_goals constructor<;>simp only<;>omega
theorem width_le (s:ByteArray) (i:Nat) (h:i<s.size):i+(Utf8.decode s i).2≤s.size:=by
  rw[decode_at];have:=(decodeN_width (s.size-i) (s.get! i).toNat (s.get! (i+1)).toNat (s.get! (i+2)).toNat (s.get! (i+3)).toNat (by omega)).1;omega
theorem runesAt_fuel (s:ByteArray):∀f g i,s.size-i≤f→s.size-i≤g→runesAt s f i=runesAt s g i
  |0,g,i,hf,_=>by rw[runesAt_end s g i (by omega)];rfl
  |f+1,0,i,_,hg=>by rw[runesAt_end s (f+1) i (by omega)];rfl
  |f+1,g+1,i,hf,hg=>by
    unfold runesAt
    by_cases h:i<s.size
    · have hw:=width_pos s i h
      rw[if_pos h,if_pos h,runesAt_fuel s f g _ (by omega) (by omega)]
    · rw[if_neg h,if_neg h]
theorem badAt_fuel (s:ByteArray):∀f g i,s.size-i≤f→s.size-i≤g→badAt s f i=badAt s g i
  |0,g,i,hf,_=>by rw[badAt_end s g i (by omega)];rfl
  |f+1,0,i,_,hg=>by rw[badAt_end s (f+1) i (by omega)];rfl
  |f+1,g+1,i,hf,hg=>by
    unfold badAt
    by_cases h:i<s.size
    · have hw:=width_pos s i h
      rw[if_pos h,if_pos h,badAt_fuel s f g _ (by omega) (by omega)]
    · rw[if_neg h,if_neg h]
theorem runesAt_length (s:ByteArray):∀f i,(runesAt s f i).length≤f∧(runesAt s f i).length≤s.size-i
  |0,i=>by simp[runesAt]
  |f+1,i=>by
    unfold runesAt
    by_cases h:i<s.size
    · have hw:=width_pos s i h
      have ih:=runesAt_length s f (i+(Utf8.decode s i).2);rw[if_pos h,List.length_cons];omega
    · rw[if_neg h];simp
theorem letters_length (s:ByteArray):(letters s).length≤s.size:=(runesAt_length s s.size 0).1
theorem append_get_left (a b:ByteArray) (i:Nat) (h:i<a.size):(a++b).get! i=a.get! i:=by
  rw[←getD_get!',←getD_get!',ByteArray.data_append,Array.toList_append];rw[size_eq]at h;simp[List.getD,List.getElem?_append_left h]
theorem append_get_right (a b:ByteArray) (j:Nat):(a++b).get! (a.size+j)=b.get! j:=by
  rw[←getD_get!',←getD_get!',ByteArray.data_append,Array.toList_append,size_eq];simp[List.getD,List.getElem?_append_right]
theorem decode_right (a b:ByteArray) (j:Nat):Utf8.decode (a++b) (a.size+j)=Utf8.decode b j:=by
  rw[decode_at,decode_at,append_get_right,Nat.add_assoc,append_get_right,Nat.add_assoc,append_get_right,Nat.add_assoc,append_get_right,ByteArray.size_append]
  congr 1;omega
set_option maxHeartbeats 4000000 in
theorem decodeN_more (n m b0 b1 b2 b3 c1 c2 c3:Nat) (hn:0<n) (hm:n≤m) (h1:1<n→c1=b1) (h2:2<n→c2=b2) (h3:3<n→c3=b3)
    (hg:¬((decodeN n b0 b1 b2 b3).1=65533∧(decodeN n b0 b1 b2 b3).2=1)):decodeN m b0 c1 c2 c3=decodeN n b0 b1 b2 b3:=by
  by_cases k1:1<n
  · rw[h1 k1]
    by_cases k2:2<n
    · rw[h2 k2]
      by_cases k3:3<n
      · rw[h3 k3]
        have m1:1<m:=(by omega);have m2:2<m:=(by omega);have m3:3<m:=(by omega);simp only[decodeN,k1,k2,k3,m1,m2,m3,true_and]
      · have m1:1<m:=by omega
        have m2:2<m:=by omega
        revert hg
        simp only[decodeN,k1,k2,k3,m1,m2,true_and,false_and,and_false,if_false]
        repeat' split
        all_goals first|(intro;rfl)|(intro h;exact absurd ⟨rfl,rfl⟩ h)|(intro;exfalso;omega)
    · have m1:1<m:=by omega
      have k3:¬3<n:=by omega
      revert hg
      simp only[decodeN,k1,k2,k3,m1,true_and,false_and,and_false,if_false]
      repeat' split
      all_goals first|(intro;rfl)|(intro h;exact absurd ⟨rfl,rfl⟩ h)|(intro;exfalso;omega)
  · have k2:¬2<n:=by omega
    have k3:¬3<n:=by omega
    revert hg
    simp only[decodeN,k1,k2,k3,false_and,and_false,if_false]
    repeat' split
    all_goals first|(intro;rfl)|(intro h;exact absurd ⟨rfl,rfl⟩ h)|(intro;exfalso;omega)
theorem decode_left (a b:ByteArray) (i:Nat) (h:i<a.size) (hg:¬((Utf8.decode a i).1=65533∧(Utf8.decode a i).2=1)):Utf8.decode (a++b) i=Utf8.decode a i:=by
  rw[decode_at]at hg;rw[decode_at a i,decode_at (a++b) i,append_get_left a b i h];refine decodeN_more _ _ _ _ _ _ _ _ _ (by omega) (by rw[ByteArray.size_append];omega) (fun k=> ?_) (fun k=> ?_) (fun k=> ?_) hg
  all_goals rw[append_get_left a b _ (by omega)]
theorem not_bad {s:ByteArray} {i:Nat} (h:bad s i=false):¬((Utf8.decode s i).1=65533∧(Utf8.decode s i).2=1):=by
  intro⟨h1,h2⟩;simp[bad,h1,h2]at h
theorem badAt_none {s:ByteArray} {f i:Nat} (hf:s.size-i≤f) (h:badAt s f i=none) (hi:i<s.size):bad s i=false∧badAt s (f-1) (i+(Utf8.decode s i).2)=none:=by
  cases f with
  |zero=>omega
  |succ f=>
    unfold badAt at h;rw[if_pos hi]at h
    cases hb:bad s i with
    |true=>rw[hb]at h;simp at h
    |false=>rw[hb]at h;exact⟨rfl,by simpa using h⟩
theorem runes_right (a b:ByteArray):∀f j,runesAt (a++b) f (a.size+j)=runesAt b f j
  |0,_=>rfl
  |f+1,j=>by
    unfold runesAt;rw[decode_right,Nat.add_assoc,runes_right a b f,ByteArray.size_append]
    by_cases h:j<b.size
    · rw[if_pos h,if_pos (by omega)]
    · rw[if_neg h,if_neg (by omega)]
theorem bad_right (a b:ByteArray) (j:Nat):bad (a++b) (a.size+j)=bad b j:=by unfold bad;rw[decode_right]
theorem badAt_right (a b:ByteArray):∀f j,badAt (a++b) f (a.size+j)=(badAt b f j).map (a.size+ ·)
  |0,_=>rfl
  |f+1,j=>by
    unfold badAt;rw[bad_right,decode_right,Nat.add_assoc,badAt_right a b f,ByteArray.size_append]
    by_cases h:j<b.size
    · rw[if_pos h,if_pos (by omega)]
      cases bad b j<;>simp
    · rw[if_neg h,if_neg (by omega)];rfl
theorem runes_both (a b:ByteArray):∀f i,a.size-i≤f→i≤a.size→badAt a f i=none→runesAt (a++b) (f+b.size) i=runesAt a f i++runesAt b b.size 0
  |0,i,hf,hi,_=>by
    obtain rfl:i=a.size:=(by omega);rw[Nat.zero_add];exact runes_right a b b.size 0
  |f+1,i,hf,hi,hb=>by
    by_cases h:i<a.size
    · obtain⟨g,hr⟩:=badAt_none hf hb h
      have hd:=decode_left a b i h (not_bad g);have hw:=width_pos a i h;have hl:=width_le a i h;rw[show f+1+b.size=(f+b.size)+1 by omega];rw[runesAt,runesAt,if_pos h,if_pos (by rw[ByteArray.size_append];omega),hd,runes_both a b f _ (by omega) hl (by simpa using hr),List.cons_append]
    · obtain rfl:i=a.size:=by omega
      rw[runesAt_end a _ _ (by omega),List.nil_append,←runes_right a b b.size 0];exact runesAt_fuel _ _ _ _ (by rw[ByteArray.size_append];omega) (by rw[ByteArray.size_append];omega)
theorem bad_both (a b:ByteArray):∀f i,a.size-i≤f→i≤a.size→badAt a f i=none→badAt (a++b) (f+b.size) i=(badAt b b.size 0).map (a.size+ ·)
  |0,i,hf,hi,_=>by
    obtain rfl:i=a.size:=(by omega);rw[Nat.zero_add];exact badAt_right a b b.size 0
  |f+1,i,hf,hi,hb=>by
    by_cases h:i<a.size
    · obtain⟨g,hr⟩:=badAt_none hf hb h
      have hd:=decode_left a b i h (not_bad g);have hw:=width_pos a i h;have hl:=width_le a i h;have hbb:bad (a++b) i=false:=(by rw[←g];unfold bad;rw[hd]);rw[show f+1+b.size=(f+b.size)+1 by omega];rw[badAt,if_pos (by rw[ByteArray.size_append];omega),hbb,hd]
      simpa using bad_both a b f _ (by omega) hl (by simpa using hr)
    · obtain rfl:i=a.size:=by omega
      rw[←badAt_right a b b.size 0];exact badAt_fuel _ _ _ _ (by rw[ByteArray.size_append];omega) (by rw[ByteArray.size_append];omega)
theorem letters_append (a b:ByteArray) (h:firstBad a=none):letters (a++b)=letters a++letters b:=by
  unfold letters;rw[ByteArray.size_append];exact runes_both a b a.size 0 (by omega) (by omega) h
theorem firstBad_append (a b:ByteArray) (h:firstBad a=none):firstBad (a++b)=(firstBad b).map (a.size+ ·):=by
  unfold firstBad;rw[ByteArray.size_append];exact bad_both a b a.size 0 (by omega) (by omega) h
theorem byte_of (n:Nat) (h:n<256):(UInt8.ofNat n).toNat=n:=by rw[UInt8.toNat_ofNat'];omega
def asLetter (r:Int):Nat:=if Utf8.valid r then r.toNat else 65533
theorem asLetter_le (r:Int):asLetter r≤1114111∧(asLetter r<55296∨57344≤asLetter r):=by
  unfold asLetter
  cases h:Utf8.valid r with
  |true=>
    simp only[if_true];simp only[Utf8.valid,Bool.or_eq_true,Bool.and_eq_true,decide_eq_true_eq]at h;omega
  |false=>simp
set_option maxHeartbeats 4000000 in
theorem decode_encode (r:Int):Utf8.decode (Utf8.encode r) 0=(asLetter r,(Utf8.encode r).size):=by
  obtain⟨c,hc⟩:∃c,asLetter r=c:=⟨_,rfl⟩;have hle:=asLetter_le r
  have he:Utf8.encode r=(if c<0x80 then⟨#[UInt8.ofNat c]⟩else if c<0x800 then⟨#[UInt8.ofNat (0xC0+c/64),UInt8.ofNat (0x80+c % 64)]⟩else if c<0x10000 then⟨#[UInt8.ofNat (0xE0+c/4096),UInt8.ofNat (0x80+c/64 % 64),UInt8.ofNat (0x80+c % 64)]⟩else ⟨#[UInt8.ofNat (0xF0+c/262144),UInt8.ofNat (0x80+c/4096 % 64),UInt8.ofNat (0x80+c/64 % 64),UInt8.ofNat (0x80+c % 64)]⟩):=by
    rw[←hc];rfl
  rw[hc]at hle ⊢;rw[he,decode_at]
  by_cases k1:c<128
  · rw[if_pos k1]
    have g0:((⟨#[UInt8.ofNat c]⟩:ByteArray).get! 0).toNat=c:=byte_of c (by omega);rw[g0];unfold decodeN;rw[if_pos (by omega)];rfl
  · rw[if_neg k1]
    by_cases k2:c<2048
    · rw[if_pos k2]
      obtain⟨x,hx⟩:∃x,0xC0+c/64=x:=⟨_,rfl⟩;obtain⟨y,hy⟩:∃y,0x80+c % 64=y:=⟨_,rfl⟩;rw[hx,hy];have g0:((⟨#[UInt8.ofNat x,UInt8.ofNat y]⟩:ByteArray).get! 0).toNat=x:=byte_of x (by omega);have g1:((⟨#[UInt8.ofNat x,UInt8.ofNat y]⟩:ByteArray).get! (0+1)).toNat=y:=byte_of y (by omega);have gs:((⟨#[UInt8.ofNat x,UInt8.ofNat y]⟩:ByteArray)).size=2:=rfl;rw[g0,g1,gs];unfold decodeN;rw[if_neg (by omega),if_pos (by omega),if_pos (by omega)];apply Prod.ext<;>simp only<;>omega
    · rw[if_neg k2]
      by_cases k3:c<65536
      · rw[if_pos k3]
        obtain⟨x,hx⟩:∃x,0xE0+c/4096=x:=⟨_,rfl⟩;obtain⟨y,hy⟩:∃y,0x80+c/64 % 64=y:=⟨_,rfl⟩;obtain⟨z,hz⟩:∃z,0x80+c % 64=z:=⟨_,rfl⟩;rw[hx,hy,hz];have g0:((⟨#[UInt8.ofNat x,UInt8.ofNat y,UInt8.ofNat z]⟩:ByteArray).get! 0).toNat=x:=byte_of x (by omega);have g1:((⟨#[UInt8.ofNat x,UInt8.ofNat y,UInt8.ofNat z]⟩:ByteArray).get! (0+1)).toNat=y:=byte_of y (by omega);have g2:((⟨#[UInt8.ofNat x,UInt8.ofNat y,UInt8.ofNat z]⟩:ByteArray).get! (0+2)).toNat=z:=byte_of z (by omega);have gs:((⟨#[UInt8.ofNat x,UInt8.ofNat y,UInt8.ofNat z]⟩:ByteArray)).size=3:=rfl;rw[g0,g1,g2,gs];unfold decodeN;rw[if_neg (by omega),if_neg (by omega),if_pos (by omega),if_pos (by omega)];apply Prod.ext<;>simp only<;>omega
      · rw[if_neg k3]
        obtain⟨x,hx⟩:∃x,0xF0+c/262144=x:=⟨_,rfl⟩;obtain⟨y,hy⟩:∃y,0x80+c/4096 % 64=y:=⟨_,rfl⟩;obtain⟨z,hz⟩:∃z,0x80+c/64 % 64=z:=⟨_,rfl⟩;obtain⟨u,hu⟩:∃u,0x80+c % 64=u:=⟨_,rfl⟩;rw[hx,hy,hz,hu];have g0:((⟨#[UInt8.ofNat x,UInt8.ofNat y,UInt8.ofNat z,UInt8.ofNat u]⟩:ByteArray).get! 0).toNat=x:=byte_of x (by omega);have g1:((⟨#[UInt8.ofNat x,UInt8.ofNat y,UInt8.ofNat z,UInt8.ofNat u]⟩:ByteArray).get! (0+1)).toNat=y:=byte_of y (by omega);have g2:((⟨#[UInt8.ofNat x,UInt8.ofNat y,UInt8.ofNat z,UInt8.ofNat u]⟩:ByteArray).get! (0+2)).toNat=z:=byte_of z (by omega);have g3:((⟨#[UInt8.ofNat x,UInt8.ofNat y,UInt8.ofNat z,UInt8.ofNat u]⟩:ByteArray).get! (0+3)).toNat=u:=byte_of u (by omega);have gs:((⟨#[UInt8.ofNat x,UInt8.ofNat y,UInt8.ofNat z,UInt8.ofNat u]⟩:ByteArray)).size=4:=rfl;rw[g0,g1,g2,g3,gs];unfold decodeN;rw[if_neg (by omega),if_neg (by omega),if_neg (by omega),if_pos (by omega),if_pos (by omega)];apply Prod.ext<;>simp only<;>omega
theorem encode_size (r:Int):1≤(Utf8.encode r).size∧(Utf8.encode r).size≤4:=by
  unfold Utf8.encode;simp only
  generalize (if Utf8.valid r then r.toNat else Utf8.runeError)=c
  repeat' split
  all_goals simp[ByteArray.size]
theorem letters_encode (r:Int):letters (Utf8.encode r)= [asLetter r]:=by
  have h:=(encode_size r).1;unfold letters;obtain⟨n,hn⟩:∃n,(Utf8.encode r).size=n+1:=⟨(Utf8.encode r).size-1,by omega⟩;rw[hn,runesAt,if_pos (by omega),decode_encode,runesAt_end _ _ _ (by simp only[Nat.zero_add];omega)]
def rest (s:ByteArray) (i:Nat):List Nat:=runesAt s (s.size-i) i
def badFrom (s:ByteArray) (i:Nat):Option Nat:=badAt s (s.size-i) i
theorem rest_zero (s:ByteArray):rest s 0=letters s:=rfl
theorem badFrom_zero (s:ByteArray):badFrom s 0=firstBad s:=rfl
theorem rest_end (s:ByteArray) (i:Nat) (h:¬i<s.size):rest s i= []:=runesAt_end _ _ _ h
theorem badFrom_end (s:ByteArray) (i:Nat) (h:¬i<s.size):badFrom s i=none:=badAt_end _ _ _ h
theorem rest_step (s:ByteArray) (i:Nat) (h:i<s.size):rest s i=(Utf8.decode s i).1::rest s (i+(Utf8.decode s i).2):=by
  have hw:=width_pos s i h;unfold rest;rw[runesAt_fuel s (s.size-i) (s.size-i-1+1) i (by omega) (by omega),runesAt,if_pos h]
  congr 1
  exact runesAt_fuel s _ _ _ (by omega) (by omega)
theorem badFrom_step (s:ByteArray) (i:Nat) (h:i<s.size):badFrom s i=if bad s i then some i else badFrom s (i+(Utf8.decode s i).2):=by
  have hw:=width_pos s i h;unfold badFrom;rw[badAt_fuel s (s.size-i) (s.size-i-1+1) i (by omega) (by omega),badAt,if_pos h]
  congr 1
  exact badAt_fuel s _ _ _ (by omega) (by omega)
def place (s:ByteArray):Nat:=(firstBad s).getD s.size
def isText (s:ByteArray):Bool:=(firstBad s).isNone
set_option maxHeartbeats 4000000 in
theorem decodeN_none (n b0 b1 b2 b3:Nat) (g0:b0<256) (h:(decodeN n b0 b1 b2 b3).1=65533):
    (decodeN n b0 b1 b2 b3).2=1↔¬(2<n∧b0=239∧b1=191∧b2=189):=by
  unfold decodeN at h ⊢
  by_cases k1:b0<128
  · rw[if_pos k1]at h;simp only at h;omega
  · rw[if_neg k1]at h ⊢
    by_cases k2:b0/32=6∧(1<n∧b1/64=2)
    · rw[if_pos k2]at h ⊢
      by_cases k3:b0 % 32*64+b1 % 64≥128
      · rw[if_pos k3]at h;simp only at h;omega
      · rw[if_neg k3];simp only[true_iff];omega
    · rw[if_neg k2]at h ⊢
      by_cases k4:b0/16=14∧(1<n∧b1/64=2)∧(2<n∧b2/64=2)
      · rw[if_pos k4]at h ⊢
        by_cases k5:b0 % 16*4096+b1 % 64*64+b2 % 64≥2048∧(b0 % 16*4096+b1 % 64*64+b2 % 64<55296∨(57344≤b0 % 16*4096+b1 % 64*64+b2 % 64∧b0 % 16*4096+b1 % 64*64+b2 % 64≤1114111))
        · rw[if_pos k5]at h ⊢;simp only at h ⊢;omega
        · rw[if_neg k5];simp only[true_iff];omega
      · rw[if_neg k4]at h ⊢
        by_cases k6:b0/8=30∧(1<n∧b1/64=2)∧(2<n∧b2/64=2)∧(3<n∧b3/64=2)
        · rw[if_pos k6]at h ⊢
          by_cases k7:b0 % 8*262144+b1 % 64*4096+b2 % 64*64+b3 % 64≥65536∧(b0 % 8*262144+b1 % 64*4096+b2 % 64*64+b3 % 64<55296∨(57344≤b0 % 8*262144+b1 % 64*4096+b2 % 64*64+b3 % 64∧b0 % 8*262144+b1 % 64*4096+b2 % 64*64+b3 % 64≤1114111))
          · rw[if_pos k7]at h;simp only at h;omega
          · rw[if_neg k7];simp only[true_iff];omega
        · rw[if_neg k6];simp only[true_iff];omega
def ownNone (s:ByteArray) (i:Nat):Bool:=Lib.hasPrefix (s.extract i s.size).data.toList (⟨#[239,191,189]⟩:ByteArray).data.toList
theorem prefix3 (l:List UInt8) (a b c:UInt8):hasPrefix l [a,b,c]=true↔(2<l.length∧l.getD 0 0=a∧l.getD 1 0=b∧l.getD 2 0=c):=by
  unfold hasPrefix
  match l with
  | []=>simp[List.isPrefixOf]
  | [_]=>simp[List.isPrefixOf]
  | [_,_]=>simp[List.isPrefixOf]
  |x::y::z::r=>
    simp only[List.isPrefixOf,Bool.and_true,Bool.and_eq_true,beq_iff_eq,List.length_cons,List.getD,List.getElem?_cons_zero,List.getElem?_cons_succ,Option.getD_some];constructor
    · rintro⟨rfl,rfl,rfl⟩;exact⟨by omega,rfl,rfl,rfl⟩
    · rintro⟨-,rfl,rfl,rfl⟩;exact⟨rfl,rfl,rfl⟩
theorem byte_is (b:UInt8) (k:Nat) (hk:k<256):b=UInt8.ofNat k↔b.toNat=k:=by
  constructor
  · intro h;rw[h];exact byte_of k hk
  · intro h;rw[←h];simp
theorem ownNone_iff (s:ByteArray) (i:Nat) (hd:(Utf8.decode s i).1=65533):ownNone s i= !((Utf8.decode s i).2==1):=by
  have e:=decodeN_none (s.size-i) (s.get! i).toNat (s.get! (i+1)).toNat (s.get! (i+2)).toNat (s.get! (i+3)).toNat (UInt8.toNat_lt _) (by rw[←decode_at];exact hd);rw[←decode_at]at e;have p:=prefix3 (s.extract i s.size).data.toList 239 191 189
  rw[getD_get!',getD_get!',getD_get!',tail_get!,tail_get!,tail_get!,←size_eq,tail_size,show(239:UInt8)=UInt8.ofNat 239 from rfl,show(191:UInt8)=UInt8.ofNat 191 from rfl,show(189:UInt8)=UInt8.ofNat 189 from rfl,
    byte_is _ _ (by omega),byte_is _ _ (by omega),byte_is _ _ (by omega),Nat.add_zero]at p
  have q:ownNone s i=true↔¬(Utf8.decode s i).2=1:=by
    rw[e];exact p.trans (by constructor<;>intro k<;>simpa using k)
  cases hb:ownNone s i with
  |true=>rw[hb]at q;simpa using q
  |false=>rw[hb]at q;simpa using q
theorem bad_asked (s:ByteArray) (i:Nat):bad s i=((Utf8.decode s i).1==0||((Utf8.decode s i).1==65533&& !ownNone s i)):=by
  unfold bad
  by_cases hd:(Utf8.decode s i).1=65533
  · rw[ownNone_iff s i hd];simp
  · have:((Utf8.decode s i).1==65533)=false:=by simpa using hd
    rw[this];simp
theorem decode_low (s:ByteArray) (i:Nat) (ha:(s.get! i).toNat<128):Utf8.decode s i=((s.get! i).toNat,1):=by
  rw[decode_at];unfold decodeN;rw[if_pos ha]
theorem runesAt_low (s:ByteArray) (ha:∀i,i<s.size→(s.get! i).toNat<128):∀f i,s.size-i≤f→i≤s.size→runesAt s f i=(s.data.toList.drop i).map (·.toNat)
  |0,i,hf,hi=>by
    rw[List.drop_eq_nil_of_le (by rw[←size_eq];omega)];rfl
  |f+1,i,hf,hi=>by
    unfold runesAt
    by_cases h:i<s.size
    · have hl:i<s.data.toList.length:=by rw[←size_eq];exact h
      have hg:s.get! i=s.data.toList[i]:=(by rw[←getD_get!'];simp only[List.getD,List.getElem?_eq_getElem hl,Option.getD_some]);rw[if_pos h,decode_low s i (ha i h),runesAt_low s ha f (i+1) (by omega) (by omega),List.drop_eq_getElem_cons hl,hg,List.map_cons]
    · rw[if_neg h,List.drop_eq_nil_of_le (by rw[←size_eq];omega)];rfl
theorem letters_low (s:ByteArray) (ha:∀b∈s.data.toList,b.toNat<128):letters s=s.data.toList.map (·.toNat):=by
  unfold letters
  have:=runesAt_low s (fun i h=>by
    have hl:i<s.data.toList.length:=by rw[←size_eq];exact h
    rw[←getD_get!'];simp only[List.getD,List.getElem?_eq_getElem hl,Option.getD_some];exact ha _ (List.getElem_mem hl)) s.size 0 (by omega) (by omega)
  simpa using this
theorem badAt_low (s:ByteArray) (ha:∀i,i<s.size→0<(s.get! i).toNat∧(s.get! i).toNat<128):∀f i,badAt s f i=none
  |0,_=>rfl
  |f+1,i=>by
    unfold badAt
    by_cases h:i<s.size
    · have:=ha i h
      have hb:bad s i=false:=by
        unfold bad;rw[decode_low s i (ha i h).2];have h0:(s.get! i).toNat≠0:=(by omega);have h1:(s.get! i).toNat≠65533:=(by omega);simp[h0,h1]
      rw[if_pos h,hb,badAt_low s ha f];rfl
    · rw[if_neg h]
theorem firstBad_low (s:ByteArray) (ha:∀b∈s.data.toList,0<b.toNat∧b.toNat<128):firstBad s=none:=
  badAt_low s (fun i h=>by
    have hl:i<s.data.toList.length:=by rw[←size_eq];exact h
    rw[←getD_get!'];simp only[List.getD,List.getElem?_eq_getElem hl,Option.getD_some];exact ha _ (List.getElem_mem hl)) _ _
def firstR (r:Int):Bool:=decide ((97≤r∧r≤122)∨(65≤r∧r≤90)∨r=95)
def moreR (r:Int):Bool:=firstR r||decide (48≤r∧r≤57)
def blankR (r:Int):Bool:=decide (r=32∨r=9∨r=10)
def nameL (l:List Nat):Bool:=match l with| []=>false|a::_=>firstR a&&l.all (fun (x:Nat)=>moreR x)&&decide (l.length≤12)
theorem yH {p:Prop} (h:p):RowKit.Hid p:=h
theorem gS {α:Type} {xs:Array α} {i:Nat} {b:α} :xs[i]? =some b↔∃h:i<xs.size,xs[i]=b:=Array.getElem?_eq_some_iff
theorem pS {α:Type} :(∀(l:List α) (i:Nat) (v:α),l.toArray.setIfInBounds i v=(l.set i v).toArray)∧(∀(x:α) (l:List α) (v:α),(x::l).set 0 v=v::l)∧(∀(x:α) (l:List α) (i:Nat) (v:α),(x::l).set (i+1) v=x::l.set i v):=
  ⟨fun _ _ _=>List.setIfInBounds_toArray ..,fun _ _ _=>rfl,fun _ _ _ _=>rfl⟩
end Go.Proofs.YtakceggnadagmaaGreatDoor.GlyphMath
namespace Go.Proofs.YtakceggnadagmaaGreatDoor.LexMath
open Go Go.Lib GlyphMath
def eb (c:Nat):List UInt8:=
  if c<128 then [UInt8.ofNat c]
  else if c<2048 then [UInt8.ofNat (192+c/64),UInt8.ofNat (128+c % 64)]
  else if c<65536 then [UInt8.ofNat (224+c/4096),UInt8.ofNat (128+c/64 % 64),UInt8.ofNat (128+c % 64)]
  else [UInt8.ofNat (240+c/262144),UInt8.ofNat (128+c/4096 % 64),UInt8.ofNat (128+c/64 % 64),UInt8.ofNat (128+c % 64)]
def enc:List Nat→List UInt8
  | []=> []
  |c::r=>eb c++enc r
structure Pt where
  kind:Int
  text:List UInt8
  op:List UInt8
  word:List Pt
  q:Bool
structure Tk where
  kind:Int
  text:List UInt8
  word:List Pt
  at_:Nat
def GoodL (c:Nat):Prop:=0<c∧c≤1114111∧(c<55296∨57343<c)
def acts (r:Nat):Bool:=r==34||r==36||r==92
def begins (r:Nat):Bool:=r==39||acts r
def ends (r:Nat) (deep:Bool):Bool:=if deep then r==125 else blankR r||(r==59||r==38||r==124||r==40||r==41||r==60||r==62)
def other (r:Nat):Bool:=decide (49≤r∧r≤57)||(r==64||r==35||r==63)
def reckons (r:Nat):Bool:=moreR r||(r==32||r==9||r==43||r==45||r==42||r==47||r==37||r==40||r==41||r==60||r==62||r==61||r==33)
def next:List Nat→Nat
  | []=>0
  |c::_=>c
def takes:List Nat→List Nat→Option (List Nat)
  | [],xs=>some xs
  |_::_,[]=>none
  |p::ps,x::xs=>if p=x then takes ps xs else none
def got (S:Nat→Bool):List Nat→List Nat
  | []=> []
  |c::r=>if S c then []else c::got S r
def left (S:Nat→Bool):List Nat→List Nat
  | []=> []
  |c::r=>if S c then c::r else left S r
def lit:List Pt→List UInt8→Bool→List Pt
  | [],t,q=> [⟨1,t,[],[],q⟩]
  | [p],t,q=>if p.kind=1∧p.q=q then [{ p with text:=p.text++t }]else [p,⟨1,t,[],[],q⟩]
  |p::p'::r,t,q=>p::lit (p'::r) t q
theorem lit_last (ps:List Pt) (p:Pt) (t:List UInt8) (q:Bool):lit (ps++ [p]) t q=if p.kind=1∧p.q=q then ps++ [{ p with text:=p.text++t }]else ps++ [p]++ [⟨1,t,[],[],q⟩]:=by
  induction ps with
  |nil=>simp only[List.nil_append,lit];split<;>simp
  |cons a r ih=>
    cases r with
    |nil=>simp only[List.cons_append,List.nil_append,lit];split<;>rfl
    |cons b r=>simp only[List.cons_append,lit]at ih ⊢;rw[ih];split<;>simp
abbrev Res (α:Type):=Except Nat (α×List Nat)
def escapedM (xs:List Nat) (ps:List Pt):Res (List Pt):=
  match xs.tail with
  | []=> .error 2
  |c::r=> .ok (lit ps (enc [c]) true,r)
def singleM (xs:List Nat) (ps:List Pt):Res (List Pt):=
  match takes [39] (left (fun r=>r==39) xs.tail)with
  |none=> .error 2
  |some r=> .ok (lit ps (enc (got (fun r=>r==39) xs.tail)) true,r)
def escapedWithinM (xs:List Nat) (ps:List Pt):Res (List Pt):=
  match xs.tail with
  | []=> .error 2
  |c::r=> .ok (lit (if acts c then ps else lit ps [92] true) (enc [c]) true,r)
def parameterM (xs:List Nat):Res (List Nat):=
  if other (next xs)then .ok ([next xs],xs.tail)
  else if nameL (got (fun r=> !moreR r) xs)then .ok (got (fun r=> !moreR r) xs,left (fun r=> !moreR r) xs)
  else .error 2
def opM (name:Bool) (xs:List Nat):Option (List UInt8×List Nat):=
  match takes [58,45] xs with
  |some r=>some ([58,45],r)
  |none=>match takes [58,43] xs with
    |some r=>some ([58,43],r)
    |none=>if name then(match takes [58,61] xs with
      |some r=>some ([58,61],r)
      |none=>none)else none
def closeM (p:Pt) (xs:List Nat):Res Pt:=
  match takes [125] xs with
  |some r=> .ok (p,r)
  |none=> .error 2
def operationM (parts:List Nat→Res (List Pt)) (l:List Nat) (xs:List Nat):Res Pt:=
  if l= [35]∧firstR (next xs)=true then
    match parameterM xs with
    | .error e=> .error e
    | .ok (l',r)=> .ok (⟨2,enc l',[35],[],false⟩,r)
  else match opM (nameL l) xs with
    |none=> .error 2
    |some (o,r)=>match parts r with
      | .error e=> .error e
      | .ok (w,r')=> .ok (⟨2,enc l,o,w,false⟩,r')
def bracesM (lim:Bool) (parts:List Nat→Res (List Pt)) (xs:List Nat):Res Pt:=
  if lim then .error 3 else
  match parameterM xs with
  | .error e=> .error e
  | .ok (l,r)=>
    if next r=125 then closeM ⟨2,enc l,[],[],false⟩ r
    else match operationM parts l r with
      | .error e=> .error e
      | .ok (p,r')=>closeM p r'
def arithM:List Nat→Nat→List Nat→Res (List Nat)
  | [],_,_=> .error 2
  |c::r,n,acc=>
    if n=0∧c=41 then(if next r=41 then .ok (acc,r.tail)else .error 2)
    else if reckons c then arithM r (if c=40 then n+1 else if c=41 then n-1 else n) (acc++ [c])
    else .error 2
def dollarM (br:List Nat→Res Pt) (q:Bool) (xs:List Nat) (ps:List Pt):Res (List Pt):=
  match takes [123] xs.tail with
  |some r=>match br r with
    | .error e=> .error e
    | .ok (p,r')=> .ok (ps++ [{ p with q:=q }],r')
  |none=>match takes [40,40] xs.tail with
    |some r=>match arithM r 0 []with
      | .error e=> .error e
      | .ok (l,r')=> .ok (ps++ [⟨3,enc l,[],[],q⟩],r')
    |none=>
      if firstR (next xs.tail)||other (next xs.tail)then
        match parameterM xs.tail with
        | .error e=> .error e
        | .ok (l,r')=> .ok (ps++ [⟨2,enc l,[],[],q⟩],r')
      else .ok (lit ps [36] true,xs.tail)
def withinM (br:List Nat→Res Pt) (xs:List Nat) (ps:List Pt):Res (List Pt):=
  if next xs=0 then .error 2
  else if next xs=92 then escapedWithinM xs ps
  else if next xs=36 then dollarM br true xs ps
  else .ok (lit ps (enc (got acts xs)) true,left acts xs)
def doubleL (br:List Nat→Res Pt):Nat→List Nat→List Pt→Res (List Pt)
  |0,_,_=> .error 0
  |f+1,xs,ps=>
    match takes [34] xs with
    |some r=> .ok (ps,r)
    |none=>match withinM br xs ps with
      | .error e=> .error e
      | .ok (ps',xs')=>doubleL br f xs' ps'
def doubleM (br:List Nat→Res Pt) (xs:List Nat) (ps:List Pt):Res (List Pt):=
  doubleL br (xs.length+1) xs.tail (if next xs.tail=34 then lit ps [] true else ps)
def partM (br:List Nat→Res Pt) (deep:Bool) (xs:List Nat) (ps:List Pt):Res (List Pt):=
  if next xs=92 then escapedM xs ps
  else if next xs=39 then singleM xs ps
  else if next xs=34 then doubleM br xs ps
  else if next xs=36 then dollarM br false xs ps
  else .ok (lit ps (enc (got (fun r=>begins r||ends r deep) xs)) false,left (fun r=>begins r||ends r deep) xs)
def partsL (br:List Nat→Res Pt) (deep:Bool):Nat→List Nat→List Pt→Res (List Pt)
  |0,_,_=> .error 0
  |f+1,xs,ps=>
    if next xs=0∨ends (next xs) deep=true then .ok (ps,xs)
    else match partM br deep xs ps with
      | .error e=> .error e
      | .ok (ps',xs')=>partsL br deep f xs' ps'
def partsM:Nat→List Nat→Res (List Pt)
  |0,xs=>partsL (bracesM true fun _=> .error 0) true (xs.length+1) xs []
  |d+1,xs=>partsL (bracesM false (partsM d)) (decide (d<19)) (xs.length+1) xs []
def signs:List (List Nat):= [[38,38],[124,124],[59,59],[62,62],[59],[124],[40],[41],[62],[60],[10]]
def signM:List (List Nat)→List Nat→Option (List Nat×List Nat)
  | [],_=>none
  |p::r,xs=>match takes p xs with
    |some ys=>some (p,ys)
    |none=>signM r xs
def skipM (xs:List Nat):List Nat:=
  if next (left (fun r=>r !=32&&r !=9) xs)=35 then left (fun r=>r==10) (left (fun r=>r !=32&&r !=9) xs)else left (fun r=>r !=32&&r !=9) xs
def tokenM (n:Nat) (xs:List Nat):Res Tk:=
  match signM signs xs with
  |some (p,r)=> .ok (⟨2,enc p,[],n⟩,r)
  |none=>
    if next xs=38 then .error 2
    else match partsM 20 xs with
      | .error e=> .error e
      | .ok (ps,r)=> .ok (⟨1,[],ps,n⟩,r)
def tokensL (sz:Nat):Nat→List Nat→List Tk→Except (Nat×Nat) (List Tk)
  |0,_,_=> .error (0,0)
  |f+1,xs,l=>
    if skipM xs= []then .ok (l++ [⟨3,[],[],sz⟩])
    else match tokenM (sz-(enc (skipM xs)).length) (skipM xs)with
      | .error e=> .error (sz-(enc (skipM xs)).length,e)
      | .ok (t,r)=>tokensL sz f r (l++ [t])
theorem eb_length (c:Nat):1≤(eb c).length∧(eb c).length≤4:=by
  unfold eb
  repeat' split
  all_goals simp
theorem enc_length:∀l:List Nat,l.length≤(enc l).length∧(enc l).length≤4*l.length
  | []=>by simp[enc]
  |c::r=>by
    have h:=eb_length c;have ih:=enc_length r;simp only[enc,List.length_append,List.length_cons];omega
theorem enc_append:∀a b:List Nat,enc (a++b)=enc a++enc b
  | [],_=>rfl
  |c::r,b=>by simp[enc,enc_append r b,List.append_assoc]
theorem got_left (S:Nat→Bool):∀l:List Nat,got S l++left S l=l
  | []=>rfl
  |c::r=>by
    unfold got left
    cases S c with
    |true=>rfl
    |false=>simp[got_left S r]
theorem got_length (S:Nat→Bool) (l:List Nat):(got S l).length+(left S l).length=l.length:=by
  have h:=congrArg List.length (got_left S l)
  rwa [List.length_append]at h
theorem left_head (S:Nat→Bool):∀l:List Nat,left S l= []∨S (next (left S l))=true
  | []=> .inl rfl
  |c::r=>by
    unfold left
    cases h:S c with
    |true=>right;simpa [next]using h
    |false=>simpa using left_head S r
theorem left_lt (S:Nat→Bool) (c:Nat) (r:List Nat) (h:S c=false):(left S (c::r)).length<(c::r).length:=by
  have:=got_length S r;unfold left;rw[h];simp;omega
theorem takes_length:∀(p xs ys:List Nat),takes p xs=some ys→xs=p++ys
  | [],xs,ys,h=>by simp[takes]at h;simp[h]
  |_::_,[],ys,h=>by simp[takes]at h
  |p::ps,x::xs,ys,h=>by
    unfold takes at h
    by_cases e:p=x
    · rw[if_pos e]at h
      rw[e,takes_length ps xs ys h];rfl
    · rw[if_neg e]at h;cases h
theorem takes_one (c:Nat) (xs:List Nat):takes [c] xs=if next xs=c∧xs≠ []then some xs.tail else none:=by
  cases xs with
  |nil=>simp[takes]
  |cons x r=>
    unfold takes
    by_cases e:c=x
    · simp[e,next,takes]
    · rw[if_neg e,if_neg];intro h;exact e h.1.symm
def Suf (xs ys:List Nat):Prop:=∃l,xs=l++ys
theorem Suf.refl (xs:List Nat):Suf xs xs:=⟨[],rfl⟩
theorem Suf.trans {a b c:List Nat} (h:Suf a b) (k:Suf b c):Suf a c:=by
  obtain⟨l,rfl⟩:=h;obtain⟨m,rfl⟩:=k;exact⟨l++m,(List.append_assoc _ _ _).symm⟩
theorem Suf.len {a b:List Nat} (h:Suf a b):b.length≤a.length:=by
  obtain⟨l,rfl⟩:=h;simp
theorem Suf.tail (a:List Nat):Suf a a.tail:=by
  cases a with
  |nil=>exact Suf.refl _
  |cons c r=>exact⟨[c],rfl⟩
theorem Suf.left (S:Nat→Bool) (a:List Nat):Suf a (left S a):=⟨got S a,(got_left S a).symm⟩
theorem Suf.takes {p a b:List Nat} (h:takes p a=some b):Suf a b:=⟨p,takes_length p a b h⟩
theorem Suf.good {a b:List Nat} (h:Suf a b) (hg:∀c∈a,GoodL c):∀c∈b,GoodL c:=by
  obtain⟨l,rfl⟩:=h;exact fun c hc=>hg c (List.mem_append_right _ hc)
def Fits (xs:List Nat) (ps:List Pt):Prop:=ps.length+xs.length≤4000∧∀p∈ps,p.text.length+4*xs.length≤16000
theorem Fits.nil (xs:List Nat) (h:xs.length≤4000):Fits xs []:=⟨by simpa using h,fun _ h=>by cases h⟩
theorem Fits.mono {xs ys:List Nat} {ps:List Pt} (h:Fits xs ps) (hl:ys.length≤xs.length):Fits ys ps:=⟨by have:=h.1;omega,fun p hp=>by have:=h.2 p hp;omega⟩
theorem Fits.add {xs ys:List Nat} {ps:List Pt} (h:Fits xs ps) {p:Pt} (hl:ys.length+1≤xs.length) (ht:p.text.length+4*ys.length≤16000):Fits ys (ps++ [p]):=
  ⟨by have:=h.1;rw[List.length_append,List.length_singleton];omega,fun x hx=>by
    rcases List.mem_append.1 hx with hx|hx
    · have:=h.2 x hx;omega
    · obtain rfl:x=p:=by simpa using hx
      exact ht⟩
theorem Fits.lit {xs ys:List Nat} {ps:List Pt} (h:Fits xs ps) (t:List UInt8) (q:Bool) (hl:ys.length+1≤xs.length) (ht:t.length+4*ys.length≤4*xs.length):Fits ys (lit ps t q):=by
  have h0:=h.1
  rcases List.eq_nil_or_concat ps with rfl|⟨r,p,rfl⟩
  · exact⟨by simp[LexMath.lit];omega,fun x hx=>by
      obtain rfl:x=_:=(by simpa [LexMath.lit]using hx);simp only
      omega⟩
  · rw[List.concat_eq_append]at h ⊢
    rw[lit_last];have hp:=h.2 p (by simp)
    split
    · refine⟨by have:=h.1;simp at this ⊢;omega,fun x hx=> ?_⟩
      rcases List.mem_append.1 hx with hx|hx
      · have:=h.2 x (by simp[hx]);omega
      · obtain rfl:x=_:=by simpa using hx
        simp only[List.length_append];omega
    · exact Fits.add h hl (by simp only;omega)
end Go.Proofs.YtakceggnadagmaaGreatDoor.LexMath
namespace Go.Proofs.YtakceggnadagmaaGreatDoor.TreeMath
open Go Go.Lib GlyphMath LexMath
abbrev T (l:List UInt8):ByteArray:=⟨l.toArray⟩
theorem T_size (l:List UInt8):(T l).size=l.length:=rfl
def metaB:List UInt8:= [32,9,10,59,38,124,40,41,60,62,39,34,36,92]
def metaW:List UInt8:= [39,34,36,92,125]
def anyIn (l cs:List UInt8):Bool:=l.any fun c=>cs.contains c
def nameT (l:List UInt8):Bool:=nameL (letters (T l))
def textT (l:List UInt8):Bool:=isText (T l)
def otherT:List UInt8→Bool
  | [c]=> [49,50,51,52,53,54,55,56,57,64,35,63].contains c
  |_=>false
def reckB:List UInt8:= [32,9,43,45,42,47,37,40,41,60,62,61,33]
def reckT (c:UInt8):Bool:=moreR (c.toNat:Int)||reckB.contains c
def arithT:List UInt8→Nat→Bool
  | [],n=>n==0
  |c::r,n=>if c=40 then arithT r (n+1)else if c=41 then n !=0&&arithT r (n-1)else reckT c&&arithT r n
def litT (within:Bool) (p:Pt):Bool:=textT p.text&&(p.q||(!p.text.isEmpty&& !anyIn p.text (if within then metaW else metaB)))
def varT (row:List Pt→Bool) (p:Pt):Bool:=
  if nameT p.text||otherT p.text then
    if p.op= []then p.word.isEmpty
    else if p.op= [35]then nameT p.text&&p.word.isEmpty
    else if p.op= [58,61]then nameT p.text&&row p.word
    else if p.op= [58,45]then row p.word
    else if p.op= [58,43]then row p.word
    else false
  else false
def partT (row:List Pt→Bool) (within:Bool) (p:Pt):Bool:=
  if p.kind=1 then p.op.isEmpty&&(p.word.isEmpty&&litT within p)
  else if p.kind=2 then varT row p
  else if p.kind=3 then p.op.isEmpty&&(p.word.isEmpty&&arithT p.text 0)
  else false
def oneT (a b:Pt):Bool:=a.kind==1&&(b.kind==1&&a.q==b.q)
def sideT (f:Pt→Bool):Option Pt→List Pt→Bool
  |_,[]=>true
  |a,p::r=>f p&&(!(a.any fun x=>oneT x p)&&sideT f (some p) r)
def rowT:Nat→List Pt→Bool
  |0,_=>false
  |k+1,ps=>sideT (partT (rowT k) (decide (k<20))) none ps
def wordT (ps:List Pt):Bool:= !ps.isEmpty&&rowT 21 ps
def bareT (p:Pt):Bool:=p.kind==1&& !p.q
def openT:List Pt→List UInt8
  | []=> []
  |p::_=>if bareT p then p.text else []
def plainT:List Pt→Option (List UInt8)
  | [p]=>if bareT p then some p.text else none
  |_=>none
def hashT:List UInt8→Bool
  |c::_=>c==35
  | []=>false
def bareW (ps:List Pt):Bool:=wordT ps&& !hashT (openT ps)
def aheadT:List UInt8→Option (List UInt8)
  | []=>none
  |c::r=>if c=61 then some []else (aheadT r).map (c:: ·)
def givesT (ps:List Pt):Bool:=match aheadT (openT ps)with
  |some n=>nameT n
  |none=>false
def reservedL:List (List UInt8):= [[105,102],[116,104,101,110],[101,108,105,102],[101,108,115,101],[102,105],[119,104,105,108,101],[117,110,116,105,108],[100,111],[100,111,110,101],[102,111,114],[105,110],[99,97,115,101],[101,115,97,99],[123],[125],[33]]
def reservedT (l:List UInt8):Bool:=reservedL.contains l
structure Nd where
  op:List UInt8
  name:List UInt8
  kids:List Int
  words:List (List Pt)
  pats:List (List (List Pt))
  assigns:List (List UInt8×List Pt)
  redirs:List (List UInt8×List Pt)
structure Sh where
  op:List UInt8
  k0:Int
  k1:Int
  w0:Int
  w1:Int
  name:Bool
  pats:Bool
  assigns:Bool
  redirs:Bool
def shapesL:List Sh:= [
  ⟨[99,109,100],0,0,0,9223372036854775807,false,false,true,true⟩,
  ⟨[115,101,113],2,9223372036854775807,0,0,false,false,false,false⟩,
  ⟨[97,110,100],2,2,0,0,false,false,false,false⟩,
  ⟨[111,114],2,2,0,0,false,false,false,false⟩,
  ⟨[110,111,116],1,1,0,0,false,false,false,false⟩,
  ⟨[112,105,112,101],2,9223372036854775807,0,0,false,false,false,false⟩,
  ⟨[105,102],2,3,0,0,false,false,false,true⟩,
  ⟨[119,104,105,108,101],2,2,0,0,false,false,false,true⟩,
  ⟨[117,110,116,105,108],2,2,0,0,false,false,false,true⟩,
  ⟨[102,111,114],1,1,0,9223372036854775807,true,false,false,true⟩,
  ⟨[99,97,115,101],0,9223372036854775807,1,1,false,true,false,true⟩,
  ⟨[102,117,110],1,1,0,0,true,false,false,false⟩,
  ⟨[103,114,111,117,112],1,1,0,0,false,false,false,true⟩,
  ⟨[115,117,98],1,1,0,0,false,false,false,true⟩]
def hasT (a b n:Int):Bool:=decide (a≤n)&&decide (n≤b)
def shapeT (s:Sh) (n:Nd):Bool:=
  hasT s.k0 s.k1 n.kids.length&&(hasT s.w0 s.w1 n.words.length&&((s.name== !n.name.isEmpty)&&((n.pats.length==(if s.pats then n.kids.length else 0))&&((s.assigns||n.assigns.isEmpty)&&(s.redirs||n.redirs.isEmpty)))))
def fitsT (n:Nd):Bool:=match shapesL.find? (fun s=>s.op==n.op)with
  |some s=>shapeT s n
  |none=>false
def commandT (n:Nd):Bool:=match n.words with
  | []=> !n.assigns.isEmpty|| !n.redirs.isEmpty
  |w::_=> !givesT w&&(!n.assigns.isEmpty||(match plainT w with|none=>true|some t=> !reservedT t))
def assignT (a:List UInt8×List Pt):Bool:=nameT a.1&&wordT a.2
def redirT (r:List UInt8×List Pt):Bool:=(r.1== [60]||(r.1== [62]||r.1== [62,62]))&&bareW r.2
def patT (l:List (List Pt)):Bool:= !l.isEmpty&&l.all bareW
def beginT (n:Nd):Bool:=if n.op= [99,109,100]then commandT n else if n.op= [102,117,110]then !reservedT n.name else true
def spellsT (n:Nd):Bool:=beginT n&&((n.name.isEmpty||nameT n.name)&&(n.words.all bareW&&(n.pats.all patT&&(n.assigns.all assignT&&n.redirs.all redirT))))
def rankT (op:List UInt8):Int:=if op= [115,101,113]then 4 else if op= [97,110,100]then 3 else if op= [111,114]then 3 else if op= [110,111,116]then 2 else if op= [112,105,112,101]then 1 else 0
def takesT (n:Nd) (i:Nat) (k:Nd):Bool:=
  if n.op= [102,117,110]then (k.op== [103,114,111,117,112]||k.op== [115,117,98])&&k.redirs.isEmpty
  else if(n.op= [97,110,100]∨n.op= [111,114])∧i=0 then decide (rankT k.op≤rankT n.op)
  else rankT n.op==0||decide (rankT k.op<rankT n.op)
def kidsT (walk:Int→Nat→Option Nat) (ns:List Nd) (n:Nd):Nat→List Int→Nat→Option Nat
  |_,[],next=>some next
  |i,k::ks,next=>match walk k next with
    |none=>none
    |some m=>match ns[k.toNat]? with
      |none=>none
      |some kd=>if takesT n i kd then kidsT walk ns n (i+1) ks m else none
def walkT (ns:List Nd):Nat→Int→Nat→Option Nat
  |0,_,_=>none
  |f+1,k,next=>if k=next then match ns[next]? with
      |none=>none
      |some n=>if fitsT n&&spellsT n then kidsT (walkT ns f) ns n 0 n.kids (next+1)else none
    else none
def isT (ns:List Nd) (root:Int):Bool:=decide (ns.length≤200)&&(walkT ns ns.length root 0==some ns.length)
end Go.Proofs.YtakceggnadagmaaGreatDoor.TreeMath
namespace Go.Proofs.YtakceggnadagmaaGreatDoor.ParseMath
open Go Go.Lib GlyphMath LexMath TreeMath
structure PS where
  ts:List Tk
  at_:Nat
  err:Nat
inductive Tr
  |mk (n:Nd) (kids:List Tr)
def Tr.node:Tr→Nd
  | .mk n _=>n
def Tr.kids:Tr→List Tr
  | .mk _ l=>l
def nd0:Nd:=⟨[],[],[],[],[],[],[]⟩
def tr0:Tr:= .mk nd0 []
def trOf (op:List UInt8) (l:List Tr):Tr:= .mk { nd0 with op:=op } l
def several (op:List UInt8):List Tr→Tr
  | [t]=>t
  |l=>trOf op l
def tkEnd:Tk:=⟨3,[],[],0⟩
def textK (t:Tk):List UInt8:=if t.kind=1 then(plainT t.word).getD []else t.text
def PS.hd (S:PS):Tk:=S.ts.headD tkEnd
def PS.tx (S:PS):List UInt8:=textK S.hd
def PS.is (S:PS) (s:List UInt8):Bool:=S.tx==s
def PS.take (S:PS):PS:=if S.hd.kind=3 then S else { S with ts:=S.ts.tail }
def PS.fail (S:PS) (e:Nat):PS:=⟨S.ts.drop (S.ts.length-1),if S.err=0 then S.hd.at_ else S.at_,if S.err=0 then e else S.err⟩
def PS.takes (S:PS) (s:List UInt8):Bool×PS:=if S.is s then(true,S.take)else (false,S)
def PS.need (S:PS) (s:List UInt8):PS:=if S.is s then S.take else S.fail 2
def PS.isWord (S:PS):Bool:=S.hd.kind==1
def PS.want (S:PS) (b:Bool):PS:=if b then S else S.fail 2
def PS.word (S:PS):List Pt×PS:=((S.want S.isWord).hd.word,(S.want S.isWord).take)
def PS.isName (S:PS):Bool:=nameT S.tx
def PS.name (S:PS):List UInt8×PS:=((S.want S.isName).tx,(S.want S.isName).take)
def linesL:Nat→PS→PS
  |0,S=>S
  |f+1,S=>if S.is [10]then linesL f S.take else S
def PS.lines (S:PS):PS:=linesL S.ts.length S
def PS.sep (S:PS):Bool×PS:=if S.is [59]||S.is [10]then (true,S.take.lines)else (false,S)
def endsL:List (List UInt8):= [[41],[59,59],[125],[116,104,101,110],[101,108,105,102],[101,108,115,101],[102,105],[100,111],[100,111,110,101]]
def PS.ends (S:PS):Bool:=endsL.contains S.tx||S.hd.kind==3
abbrev Do:=PS→Tr×PS
def pipeL (cmd:Do):Nat→List Tr→PS→List Tr×PS
  |0,l,S=>(l,S)
  |f+1,l,S=>if S.is [124]then pipeL cmd f (l++ [(cmd S.take.lines).1]) (cmd S.take.lines).2 else(l,S)
def pipeM (cmd:Do) (S:PS):Tr×PS:=
  let b:=S.takes [33]
  let r:=cmd b.2
  let q:=pipeL cmd r.2.ts.length [r.1] r.2
  (if b.1 then trOf [110,111,116] [several [112,105,112,101] q.1]else several [112,105,112,101] q.1,q.2)
def andorL (cmd:Do):Nat→Tr→PS→Tr×PS
  |0,n,S=>(n,S)
  |f+1,n,S=>
    if S.is [38,38]then andorL cmd f (trOf [97,110,100] [n,(pipeM cmd S.take.lines).1]) (pipeM cmd S.take.lines).2
    else if S.is [124,124]then andorL cmd f (trOf [111,114] [n,(pipeM cmd S.take.lines).1]) (pipeM cmd S.take.lines).2
    else(n,S)
def andorM (cmd:Do) (S:PS):Tr×PS:=andorL cmd (pipeM cmd S).2.ts.length (pipeM cmd S).1 (pipeM cmd S).2
def listL (cmd:Do):Nat→List Tr→PS→List Tr×PS
  |0,l,S=>(l,S)
  |f+1,l,S=>if S.sep.1&& !S.sep.2.ends then listL cmd f (l++ [(andorM cmd S.sep.2).1]) (andorM cmd S.sep.2).2 else(l,S.sep.2)
def listM (cmd:Do) (S:PS):Tr×PS:=
  let r:=andorM cmd S.lines
  let q:=listL cmd r.2.ts.length [r.1] r.2
  (several [115,101,113] q.1,q.2)
def PS.isRedir (S:PS):Bool:=S.is [60]||(S.is [62]||S.is [62,62])
def redirM (S:PS):(List UInt8×List Pt)×PS:=((S.hd.text,S.take.word.1),S.take.word.2)
def restT:List UInt8→List UInt8
  | []=> []
  |c::r=>if c=61 then r else restT r
def assignO:List Pt→Option (List UInt8×List Pt)
  | []=>none
  |p::r=>if bareT p then match aheadT p.text with
      |none=>none
      |some n=>if nameT n then
          some (n,if restT p.text= []∧r= []then [⟨1,[],[],[],true⟩]else if restT p.text= []then r else⟨1,restT p.text,[],[],false⟩::r)
        else none
    else none
def pushWord (n:Nd) (S:PS):Nd×PS:=({ n with words:=n.words++ [S.word.1] },S.word.2)
def partM (n:Nd) (S:PS):Nd×PS:=
  if n.words.isEmpty then match assignO S.hd.word with
    |some a=>({ n with assigns:=n.assigns++ [a] },S.take)
    |none=>if n.assigns.isEmpty&&reservedT S.tx then(n,S.fail 2)else pushWord n S
  else pushWord n S
def simpleL:Nat→Nd→PS→Nd×PS
  |0,n,S=>(n,S)
  |f+1,n,S=>
    if S.isRedir then simpleL f { n with redirs:=n.redirs++ [(redirM S).1] } (redirM S).2
    else if S.isWord then simpleL f (partM n S).1 (partM n S).2
    else(n,S)
def simpleM (S:PS):Tr×PS:=
  let S1:=S.want (S.isWord||S.isRedir)
  let r:=simpleL S1.ts.length { nd0 with op:= [99,109,100] } S1
  (.mk r.1 [],r.2)
def enclosedM (cmd:Do) (op closing:List UInt8) (S:PS):Tr×PS:=(trOf op [(listM cmd S.take).1],(listM cmd S.take).2.need closing)
def branchM (cmd br:Do) (S:PS):Tr×PS:=
  let a:=listM cmd S.take
  let b:=listM cmd (a.2.need [116,104,101,110])
  if b.2.is [101,108,105,102]then (trOf [105,102] [a.1,b.1,(br b.2).1],(br b.2).2)
  else if b.2.is [101,108,115,101]then (trOf [105,102] [a.1,b.1,(listM cmd b.2.take).1],(listM cmd b.2.take).2.need [102,105])
  else(trOf [105,102] [a.1,b.1],b.2.need [102,105])
def bodyM (cmd:Do) (S:PS):Tr×PS:=((listM cmd (S.need [100,111])).1,(listM cmd (S.need [100,111])).2.need [100,111,110,101])
def loopM (cmd:Do) (op:List UInt8) (S:PS):Tr×PS:=(trOf op [(listM cmd S.take).1,(bodyM cmd (listM cmd S.take).2).1],(bodyM cmd (listM cmd S.take).2).2)
def wordsL:Nat→List (List Pt)→PS→List (List Pt)×PS
  |0,l,S=>(l,S)
  |f+1,l,S=>if S.isWord then wordsL f (l++ [S.word.1]) S.word.2 else(l,S)
def eachM (cmd:Do) (S:PS):Tr×PS:=
  let nm:=S.take.name
  let S1:=nm.2.need [105,110]
  let ws:=wordsL S1.ts.length [] S1
  let b:=bodyM cmd ws.2.sep.2
  (.mk { nd0 with op:= [102,111,114],name:=nm.1,words:=ws.1 } [b.1],b.2)
def patsL:Nat→List (List Pt)→PS→List (List Pt)×PS
  |0,l,S=>(l,S)
  |f+1,l,S=>if S.is [124]then patsL f (l++ [S.take.word.1]) S.take.word.2 else(l,S)
def patsM (S:PS):List (List Pt)×PS:=
  let r:=(S.takes [40]).2.word
  let q:=patsL r.2.ts.length [r.1] r.2
  (q.1,q.2.need [41])
structure Cs where
  pats:List (List (List Pt))
  kids:List Tr
  st:PS
def choiceL (cmd:Do):Nat→List (List (List Pt))→List Tr→PS→Cs
  |0,ps,l,S=>⟨ps,l,S⟩
  |f+1,ps,l,S=>
    if S.is [101,115,97,99]||S.hd.kind==3 then⟨ps,l,S⟩
    else choiceL cmd f (ps++ [(patsM S).1]) (l++ [(listM cmd (patsM S).2).1]) ((listM cmd (patsM S).2).2.need [59,59]).lines
def choiceM (cmd:Do) (S:PS):Tr×PS:=
  let w:=S.take.word
  let S1:=(w.2.need [105,110]).lines
  let q:=choiceL cmd S1.ts.length [] [] S1
  (.mk { nd0 with op:= [99,97,115,101],words:= [w.1],pats:=q.pats } q.kids,q.st.need [101,115,97,99])
def compoundM (cmd br:Do) (S:PS):Option (Tr×PS):=
  if S.is [123]then some (enclosedM cmd [103,114,111,117,112] [125] S)
  else if S.is [40]then some (enclosedM cmd [115,117,98] [41] S)
  else if S.is [105,102]then some (branchM cmd br S)
  else if S.is [119,104,105,108,101]then some (loopM cmd [119,104,105,108,101] S)
  else if S.is [117,110,116,105,108]then some (loopM cmd [117,110,116,105,108] S)
  else if S.is [102,111,114]then some (eachM cmd S)
  else if S.is [99,97,115,101]then some (choiceM cmd S)
  else none
def PS.isFun (S:PS):Bool:=S.isName&&(!reservedT S.tx&&textK (S.ts.tail.headD tkEnd)== [40])
def funM (held:Do) (S:PS):Tr×PS:=
  let nm:=S.name
  let h:=held ((nm.2.need [40]).need [41]).lines
  (.mk { nd0 with op:= [102,117,110],name:=nm.1 } [h.1],h.2)
def redirsL:Nat→Nd→PS→Nd×PS
  |0,n,S=>(n,S)
  |f+1,n,S=>if S.isRedir then redirsL f { n with redirs:=n.redirs++ [(redirM S).1] } (redirM S).2 else(n,S)
def redirsM (r:Tr×PS):Tr×PS:=(.mk (redirsL r.2.ts.length r.1.node r.2).1 r.1.kids,(redirsL r.2.ts.length r.1.node r.2).2)
def commandM (cmd br held:Do) (S:PS):Tr×PS:=
  if S.isFun then funM held S
  else match compoundM cmd br S with
    |some r=>redirsM r
    |none=>simpleM S
def heldM (cmd:Do) (S:PS):Tr×PS:=
  if S.is [123]then enclosedM cmd [103,114,111,117,112] [125] S
  else if S.is [40]then enclosedM cmd [115,117,98] [41] S
  else(tr0,S.fail 2)
structure Lv where
  cmd:Do
  br:Do
  held:Do
def lv:Nat→Lv
  |0=>⟨fun S=>simpleM (S.fail 3),fun S=>(tr0,S),fun S=>(tr0,S.fail 3)⟩
  |k+1=>⟨commandM (lv k).cmd (lv k).br (lv k).held,branchM (lv k).cmd (lv k).br,heldM (lv k).cmd⟩
mutual
def laidM:Tr→List Nd→List Nd
  | .mk n kids,l=>laidL l.length kids (l++ [n])
def laidL (at_:Nat):List Tr→List Nd→List Nd
  | [],l=>l
  |t::r,l=>laidL at_ r (laidM t (l.modify at_ fun n=> { n with kids:=n.kids++ [(l.length:Int)] }))
end
def scriptM (S:PS):Tr×PS:=((listM (lv 20).cmd S).1,(listM (lv 20).cmd S).2.want ((listM (lv 20).cmd S).2.hd.kind==3))
def parseM (ts:List Tk):Except (Nat×Nat) (List Nd):=
  let r:=scriptM ⟨ts,0,0⟩
  if r.2.err≠0 then .error (r.2.at_,r.2.err)
  else if 200<(laidM r.1 []).length then .error (0,3)
  else .ok (laidM r.1 [])
end Go.Proofs.YtakceggnadagmaaGreatDoor.ParseMath
namespace Go.Proofs.YtakceggnadagmaaGreatDoor
open Go Go.RowKit GlyphMath LexMath
structure Kept (D:Nat→Prop) (w w':World):Prop where
  os:w'.os=w.os
  tape:w'.tape=w.tape
  output:w'.output=w.output
  size:w.heap.size≤w'.heap.size
  block:∀k,k<w.heap.size→¬D k→w'.heap[k]? =w.heap[k]?
theorem Kept.refl (D:Nat→Prop) (w:World):Kept D w w:=⟨rfl,rfl,rfl,Nat.le_refl _,fun _ _ _=>rfl⟩
theorem Kept.mono {D D':Nat→Prop} {w w':World} (h:Kept D w w') (hD:∀k,k<w.heap.size→D k→D' k):Kept D' w w':=
  ⟨h.os,h.tape,h.output,h.size,fun k hk hn=>h.block k hk fun hd=>hn (hD k hk hd)⟩
theorem Kept.trans {D D':Nat→Prop} {a b c:World} (h:Kept D a b) (k:Kept D' b c) (hD:∀i,D' i→D i∨a.heap.size≤i):Kept D a c:=
  ⟨k.os.trans h.os,k.tape.trans h.tape,k.output.trans h.output,Nat.le_trans h.size k.size,fun i hi hn=>
    (k.block i (Nat.lt_of_lt_of_le hi h.size) fun hd=>(hD i hd).elim hn fun h'=>by omega).trans (h.block i hi hn)⟩
theorem Kept.on {D:Nat→Prop} {a b c:World} (h:Kept D a b) (k:Kept D b c):Kept D a c:=h.trans k fun _ h=> .inl h
theorem Kept.drew {D:Nat→Prop} {a w:World} (h:Kept D a w):Kept D a w.drew:=⟨h.os,h.tape,h.output,h.size,h.block⟩
theorem Kept.alloc {D:Nat→Prop} {a w:World} (h:Kept D a w) (o:Obj):Kept D a (w.alloc o):=
  ⟨h.os,h.tape,h.output,Nat.le_trans h.size (by simp),fun k hk hn=>(Below.heap_alloc w o k (Nat.lt_of_lt_of_le hk h.size)).trans (h.block k hk hn)⟩
theorem Kept.setCell {D:Nat→Prop} {a w:World} (h:Kept D a w) {p:Addr} (hp:D p.block∨a.heap.size≤p.block) (u:Value):Kept D a (w.setCell p u):=
  ⟨h.os,h.tape,h.output,by have:=h.size;simpa [World.setCell]using this,fun k hk hn=>(Below.heap_setCell w p u k (fun e=>by subst e;exact hp.elim hn fun h'=>by omega)).trans (h.block k hk hn)⟩
theorem Kept.grown {D:Nat→Prop} {a w w':World} {row:Option Nat} (h:Kept D a w) (hg:w.grownBy w' row) (hr:∀k,row=some k→D k∨a.heap.size≤k):Kept D a w':=
  ⟨hg.os.trans h.os,hg.tape.trans h.tape,hg.output.trans h.output,Nat.le_trans h.size hg.size,fun k hk hn=>
    (hg.block k (Nat.lt_of_lt_of_le hk h.size) (fun e=>(hr k e.symm).elim hn fun h'=>by omega)).trans (h.block k hk hn)⟩
theorem Kept.of_below {D:Nat→Prop} {w w':World} (h:Below w.heap.size w w'):Kept D w w':=⟨h.os,h.tape,h.output,h.size,fun k hk _=>h.block k hk⟩
theorem Kept.cell {D:Nat→Prop} {w w':World} (h:Kept D w w') {a:Addr} {v:Value} (hc:w.cell? a=some v) (hn:¬D a.block):w'.cell? a=some v:=
  (World.cell?_of_block (h.block a.block (World.block_lt_of_cell? w a hc) hn)).trans hc
theorem Kept.heap {D:Nat→Prop} {w w':World} (h:Kept D w w') {k:Nat} {o:Obj} (hk:w.heap[k]? =some o) (hn:¬D k):w'.heap[k]? =some o:=
  (h.block k (gS.1 hk).1 hn).trans hk
theorem cell_plain {w:World} {k:Nat} {cs:Array Value} {t:TypeId} {fz:Nat×Nat} (h:w.heap[k]? =some (.cells cs t fz)) (o:Nat):w.cell? ⟨k,o,none⟩=cs[o]? :=cell_of_row w k o cs t fz h
theorem frozen_plain {w:World} {k:Nat} {cs:Array Value} {t:TypeId} (h:w.heap[k]? =some (.cells cs t (0,0))) (o:Nat):w.frozen? ⟨k,o,none⟩=false:=Lib.frozen_of_heap h o
theorem heap_set_one {w:World} {k:Nat} {v:Value} {t:TypeId} (h:w.heap[k]? =some (.cells #[v] t (0,0))) (u:Value):(w.setCell ⟨k,0,none⟩ u).heap[k]? =some (.cells #[u] t (0,0)):=by
  simp[World.setCell,Array.getElem?_modify,h]
def txt (l:List UInt8):Value:= .string ⟨l.toArray⟩
def pcells (p:Pt) (wv:Value):List Value:= [.int .i64 p.kind,txt p.text,txt p.op,wv,.bool p.q]
def partV (p:Pt) (u:Value):Value:= .agg #[.int .i64 p.kind,txt p.text,txt p.op,u,.bool p.q]
def rowCells:List Pt→List Value→List Value
  |p::ps,v::vs=>pcells p v++rowCells ps vs
  |_,_=> []
theorem rowCells_append:∀(ps:List Pt) (vs:List Value) (qs:List Pt) (us:List Value),ps.length=vs.length→rowCells (ps++qs) (vs++us)=rowCells ps vs++rowCells qs us
  | [],[],_,_,_=>rfl
  |p::ps,v::vs,qs,us,h=>by
    simp only[List.cons_append,rowCells,rowCells_append ps vs qs us (by simpa using h),List.append_assoc]
  | [],_::_,_,_,h=>by simp at h
  |_::_,[],_,_,h=>by simp at h
theorem rowCells_length:∀(ps:List Pt) (vs:List Value),ps.length=vs.length→(rowCells ps vs).length=ps.length*5
  | [],[],_=>rfl
  |p::ps,v::vs,h=>by
    rw[rowCells,List.length_append,rowCells_length ps vs (by simpa using h),List.length_cons];simp only[pcells,List.length_cons,List.length_nil];omega
  | [],_::_,h=>by simp at h
  |_::_,[],h=>by simp at h
theorem rowCells_get:∀(ps:List Pt) (vs:List Value) (j:Nat) (p:Pt) (v:Value),ps[j]? =some p→vs[j]? =some v→ps.length=vs.length→∀i,i<5→(rowCells ps vs)[j*5+i]? =(pcells p v)[i]?
  | [],_,_,_,_,h,_,_,_,_=>by simp at h
  |_::_,[],_,_,_,_,h,_,_,_=>by simp at h
  |a::ps,b::vs,0,p,v,h1,h2,_,i,hi=>by
    simp only[List.getElem?_cons_zero,Option.some.injEq]at h1 h2;subst h1 h2;rw[rowCells,Nat.zero_mul,Nat.zero_add,List.getElem?_append_left (by simp[pcells];omega)]
  |a::ps,b::vs,j+1,p,v,h1,h2,hl,i,hi=>by
    simp only[List.getElem?_cons_succ]at h1 h2;rw[rowCells,show(j+1)*5+i=5+(j*5+i) by omega,List.getElem?_append_right (by simp[pcells])]
    simpa [pcells]using rowCells_get ps vs j p v h1 h2 (by simpa using hl) i hi
inductive WordV (w:World) (F:Nat→Prop):Value→List Pt→Prop
  |row (v:Value) (ps:List Pt) (vs:List Value):w.ownsRow 0 113 5 v ps.length (rowCells ps vs)→ps.length=vs.length→(∀g,v.ownBlock=some g→F g)→
      (∀(j:Nat) (p:Pt) (u:Value),ps[j]? =some p→vs[j]? =some u→WordV w F u p.word)→WordV w F v ps
theorem ownsRow_same {w w':World} {B e size n:Nat} {v:Value} {xs:List Value} (h:w.ownsRow B e size v n xs) (hk:∀g,v.ownBlock=some g→w'.heap[g]? =w.heap[g]?):w'.ownsRow B e size v n xs:=by
  refine⟨h.1,?_⟩
  rcases h.2 with hn|⟨g,cap,cur,hv,hbg,hg,r⟩
  · exact .inl hn
  · exact .inr ⟨g,cap,cur,hv,hbg,(hk g (by rw[hv];rfl)).trans hg,r⟩
theorem ownsRow_base {w:World} {B C e size n:Nat} {v:Value} {xs:List Value} (h:w.ownsRow B e size v n xs) (hC:∀g,v.ownBlock=some g→C≤g):w.ownsRow C e size v n xs:=by
  refine⟨h.1,?_⟩
  rcases h.2 with hn|⟨g,cap,cur,hv,hbg,hg,r⟩
  · exact .inl hn
  · exact .inr ⟨g,cap,cur,hv,hC g (by rw[hv];rfl),hg,r⟩
theorem WordV.same {w w':World} {F:Nat→Prop} {v:Value} {ps:List Pt} (h:WordV w F v ps) (hk:∀g,F g→w'.heap[g]? =w.heap[g]?):WordV w' F v ps:=by
  induction h with
  |row v ps vs h1 h2 h3 _ ih=>exact .row v ps vs (ownsRow_same h1 fun g hg=>hk g (h3 g hg)) h2 h3 ih
theorem WordV.mono {w:World} {F F':Nat→Prop} {v:Value} {ps:List Pt} (h:WordV w F v ps) (hF:∀g,F g→F' g):WordV w F' v ps:=by
  induction h with
  |row v ps vs h1 h2 h3 _ ih=>exact .row v ps vs h1 h2 (fun g hg=>hF g (h3 g hg)) ih
theorem WordV.nil (w:World) (F:Nat→Prop):WordV w F (.slice none 0 0) []:=
  .row _ [] [] (World.ownsRow_nil _ _ _ _) rfl (fun _ h=>by simp[Value.ownBlock]at h) (fun _ _ _ h=>by simp at h)
def WordN (w:World) (B:Nat) (v:Value) (ps:List Pt):Prop:=∃F,WordV w F v ps∧∀g,F g→B≤g∧g<w.heap.size
theorem WordN.nil (w:World) (B:Nat):WordN w B (.slice none 0 0) []:=⟨fun _=>False,WordV.nil _ _,fun _ h=>h.elim⟩
theorem WordN.kept {D:Nat→Prop} {w w':World} {B:Nat} {v:Value} {ps:List Pt} (h:WordN w B v ps) (hk:Kept D w w') (hD:∀k,B≤k→¬D k):WordN w' B v ps:=by
  obtain⟨F,h1,h2⟩:=h;exact⟨F,h1.same fun g hg=>hk.block g (h2 g hg).2 (hD g (h2 g hg).1),fun g hg=>⟨(h2 g hg).1,Nat.lt_of_lt_of_le (h2 g hg).2 hk.size⟩⟩
theorem WordN.base {w:World} {B C:Nat} {v:Value} {ps:List Pt} (h:WordN w B v ps) (hC:C≤B):WordN w C v ps:=by
  obtain⟨F,h1,h2⟩:=h;exact⟨F,h1,fun g hg=>⟨Nat.le_trans hC (h2 g hg).1,(h2 g hg).2⟩⟩
end Go.Proofs.YtakceggnadagmaaGreatDoor
namespace Go.Proofs.YtakceggnadagmaaGreatDoor
open Go Go.RowKit GlyphMath LexMath TreeMath
def SpotAt (w:World) (p:Option Addr) (k size:Nat) (cs:List Value):Prop:=∃b o,p=some ⟨b,o,none⟩∧∀i u,cs[i]? =some u→w.cell? ⟨b,o+k*size+i,none⟩=some u
theorem SpotAt.below {w w':World} {p:Option Addr} {k size:Nat} {cs:List Value} (h:SpotAt w p k size cs) (hb:Below w.heap.size w w'):SpotAt w' p k size cs:=by
  obtain⟨b,o,hp,hc⟩:=h;refine⟨b,o,hp,fun i u hu=> ?_⟩;have:=hc i u hu;rw[hb.cell (p:=⟨b,_,none⟩) (World.block_lt_of_cell? w _ this)];exact this
inductive PsAt (w:World):Value→List Pt→Prop
  |mk (p:Option Addr) (c:Nat) (ps:List Pt) (us:List Value):us.length=ps.length→ps.length≤maxLen→
      (∀k q u,ps[k]? =some q→us[k]? =some u→SpotAt w p k 5 (pcells q u))→(∀(k:Nat) (q:Pt) (u:Value),ps[k]? =some q→us[k]? =some u→PsAt w u q.word)→PsAt w (.slice p ps.length c) ps
theorem PsAt.stays {w w':World} {v:Value} {ps:List Pt} (h:PsAt w v ps) (hb:Below w.heap.size w w'):PsAt w' v ps:=by
  induction h with
  |mk p c ps us h1 h2 h3 _ ih=>exact .mk p c ps us h1 h2 (fun k q u hq hu=>(h3 k q u hq hu).below hb) ih
theorem PsAt.nil (w:World) (c:Nat):PsAt w (.slice none 0 c) []:=
  .mk none c [] [] rfl (by simp) (fun _ _ _ h=>by simp at h) (fun _ _ _ h=>by simp at h)
theorem PsAt.is {w:World} {v:Value} {ps:List Pt} (h:PsAt w v ps):∃p c,v= .slice p ps.length c∧ps.length≤maxLen∧
    ∀k q,ps[k]? =some q→∃u,SpotAt w p k 5 (pcells q u)∧PsAt w u q.word:=by
  cases h with
  |mk p c ps us h1 h2 h3 h4=>
    refine⟨p,c,rfl,h2,fun k q hq=> ?_⟩;have hk:k<us.length:=(by rw[h1];exact(List.getElem?_eq_some_iff.1 hq).1);exact⟨us[k],h3 k q _ hq (List.getElem?_eq_getElem hk),h4 k q _ hq (List.getElem?_eq_getElem hk)⟩
def wordV (u:Value):Value:= .agg #[u]
structure SlAt (w:World) (size:Nat) (α:Type) (P:α→List Value→Prop) (v:Value) (l:List α):Prop where
  is:∃p c,v= .slice p l.length c∧∀k x,l[k]? =some x→∃cs,SpotAt w p k size cs∧P x cs
  few:l.length≤maxLen
theorem SlAt.below {w w':World} {size:Nat} {α:Type} {P Q:α→List Value→Prop} {v:Value} {l:List α} (h:SlAt w size α P v l) (hb:Below w.heap.size w w') (hP:∀x cs,P x cs→Q x cs):SlAt w' size α Q v l:=by
  obtain⟨⟨p,c,hv,hx⟩,hf⟩:=h;refine⟨⟨p,c,hv,fun k x hk=> ?_⟩,hf⟩;obtain⟨cs,h1,h2⟩:=hx k x hk;exact⟨cs,h1.below hb,hP x cs h2⟩
theorem SlAt.nil (w:World) (size:Nat) {α:Type} (P:α→List Value→Prop) (c:Nat):SlAt w size α P (.slice none 0 c) []:=⟨⟨none,c,rfl,fun _ _ h=>by simp at h⟩,by simp⟩
def WsAt (w:World) (v:Value) (l:List (List Pt)):Prop:=SlAt w 1 (List Pt) (fun x cs=> ∃u,cs= [u]∧PsAt w u x) v l
def PatsAt (w:World) (v:Value) (l:List (List (List Pt))):Prop:=SlAt w 1 (List (List Pt)) (fun x cs=> ∃u,cs= [u]∧WsAt w u x) v l
def AsAt (w:World) (v:Value) (l:List (List UInt8×List Pt)):Prop:=SlAt w 2 (List UInt8×List Pt) (fun x cs=> ∃u,cs= [txt x.1,u]∧PsAt w u x.2) v l
def KidsAt (w:World) (v:Value) (l:List Int):Prop:=SlAt w 1 Int (fun x cs=>cs= [.int .i64 x]) v l
theorem WsAt.below {w w':World} {v:Value} {l:List (List Pt)} (h:WsAt w v l) (hb:Below w.heap.size w w'):WsAt w' v l:=SlAt.below h hb fun _ _ ⟨u,e,hu⟩=>⟨u,e,hu.stays hb⟩
theorem PatsAt.below {w w':World} {v:Value} {l:List (List (List Pt))} (h:PatsAt w v l) (hb:Below w.heap.size w w'):PatsAt w' v l:=SlAt.below h hb fun _ _ ⟨u,e,hu⟩=>⟨u,e,hu.below hb⟩
theorem AsAt.below {w w':World} {v:Value} {l:List (List UInt8×List Pt)} (h:AsAt w v l) (hb:Below w.heap.size w w'):AsAt w' v l:=SlAt.below h hb fun _ _ ⟨u,e,hu⟩=>⟨u,e,hu.stays hb⟩
theorem KidsAt.below {w w':World} {v:Value} {l:List Int} (h:KidsAt w v l) (hb:Below w.heap.size w w'):KidsAt w' v l:=SlAt.below h hb fun _ _ e=>e
structure NdAt (w:World) (n:Nd) (cs:List Value):Prop where
  is:∃kv wv pv av rv,cs= [txt n.op,txt n.name,kv,wv,pv,av,rv]∧KidsAt w kv n.kids∧WsAt w wv n.words∧PatsAt w pv n.pats∧AsAt w av n.assigns∧AsAt w rv n.redirs
theorem NdAt.below {w w':World} {n:Nd} {cs:List Value} (h:NdAt w n cs) (hb:Below w.heap.size w w'):NdAt w' n cs:=by
  obtain⟨kv,wv,pv,av,rv,e,h1,h2,h3,h4,h5⟩:=h.is;exact⟨kv,wv,pv,av,rv,e,h1.below hb,h2.below hb,h3.below hb,h4.below hb,h5.below hb⟩
def NsAt (w:World) (v:Value) (l:List Nd):Prop:=SlAt w 7 Nd (fun n cs=>NdAt w n cs) v l
theorem NsAt.below {w w':World} {v:Value} {l:List Nd} (h:NsAt w v l) (hb:Below w.heap.size w w'):NsAt w' v l:=SlAt.below h hb fun _ _ e=>e.below hb
inductive Small:List Pt→Prop
  |mk (ps:List Pt):(∀q:Pt,q∈ps→q.text.length≤1048576)→(∀q:Pt,q∈ps→Small q.word)→Small ps
theorem Small.get {ps:List Pt} (h:Small ps) {q:Pt} (hq:q∈ps):q.text.length≤1048576∧Small q.word:=by
  cases h with
  |mk _ h k=>exact⟨h q hq,k q hq⟩
theorem Small.nil:Small []:= .mk [] (fun _ h=>by cases h) fun _ h=>by cases h
end Go.Proofs.YtakceggnadagmaaGreatDoor
